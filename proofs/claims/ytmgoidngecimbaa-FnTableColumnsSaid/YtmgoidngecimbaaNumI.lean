/- Numbers as they are written: the program's methods. -/
import Derived.Test.YtmgoidngecimbaaNum8
import Derived.Test.YtmgoidngecimbaaTxtB
import Derived.Test.YtmgoidngecimbaaShelf
namespace Go.Proofs.Ytmgoidngecimbaa
open Go.RowKit Go.ChangeShapes Go.WideShapes Go.Deep
set_option linter.unusedVariables false
set_option linter.unusedSimpArgs false

theorem isEmpty8i (s : ByteArray) (h : 0 < s.size) : s.toList.isEmpty = false := by
  rw [ByteArray.toList_eq]
  cases hx : s.data.toList with
  | nil => have : s.data.toList.length = s.size := rfl; rw [hx] at this; simp at this; omega
  | cons a r => rfl
theorem nil8i (s : ByteArray) (h : 0 < s.size) : ¬ s.toList = [] := by
  have := isEmpty8i s h
  intro e
  rw [e] at this
  cases this
theorem size_zero8i (s : ByteArray) (h : s.size = 0) : s = ByteArray.empty := by
  apply ByteArray.ext
  apply Array.toList_inj.1
  have : s.data.toList.length = 0 := h
  rw [List.length_eq_zero_iff.1 this]
  rfl
theorem isLong8 (s : ByteArray) {v : Bool} (hv : decide (30 < s.size) = v) (w : World) : Calls Try.prog 52 #[.string s] w fun e w' => e = .returned (.bool v) ∧ w = w' := by
  by_cases h : 30 < s.size
  · have g : (30 : Int) < (s.size : Int) := by omega
    have hr : Hid (v = true) := Lib.hid (by rw [← hv, decide_eq_true h])
    clear hv
    go_enter Try.func52, Try.ntmps52
    go_wp2
    go_ret
    exact ⟨by rw [hr.out]; rfl, rfl⟩
  · have g : ¬ (30 : Int) < (s.size : Int) := by omega
    have hr : Hid (v = false) := Lib.hid (by rw [← hv, decide_eq_false h])
    clear hv
    go_enter Try.func52, Try.ntmps52
    go_wp2
    go_ret
    exact ⟨by rw [hr.out]; rfl, rfl⟩
theorem areDigits8 (s : ByteArray) (hs : s.size ≤ 30) {v : Bool} (hv : dg s.data.toList = v) (w : World) : Calls Try.prog 74 #[.string s] w fun e w' => e = .returned (.bool v) ∧ w = w' := by
  by_cases h0 : s.size = 0
  · obtain rfl := size_zero8i s h0
    obtain rfl : v = false := by rw [← hv]; rfl
    go_enter Try.func74, Try.ntmps74
    go_wp2
    go_ret
    exact ⟨rfl, rfl⟩
  · have hne := isEmpty8i s (by omega)
    have hne2 := nil8i s (by omega)
    have hb : (decide ((s.size : Int) ≤ 30) && bytesIn 48 57 s) = v := by
      rw [decide_eq_true (by omega), Bool.true_and, ← hv, dg]
      have : s.data.toList.isEmpty = false := by rw [← ByteArray.toList_eq]; exact hne
      rw [this]
      rfl
    have hc := Lib.hid (fun W => hasBytes_any s 48 57 30 v hb W (by unfold maxLen; omega))
    clear hv hb
    replace h0 := Lib.hid h0
    go_enter Try.func74, Try.ntmps74
    go_wp2_with fail
    refine (hc.out _).mono ?_
    rintro e w1 ⟨rfl, rfl⟩
    go_wp2
    go_ret
    exact ⟨rfl, rfl⟩
theorem trim45 (l : List UInt8) : Lib.trimPrefix l [45] = unm l := by
  cases l with
  | nil => rfl
  | cons c r =>
    by_cases h : c = 45
    · subst h
      simp [unm, Lib.trimPrefix, Lib.hasPrefix]
    · have h2 : ¬ 45 = c := fun e => h e.symm
      have h3 : ¬ c.toNat = 45 := fun e => h (UInt8.toNat_inj.1 (by simpa using e))
      simp [unm, Lib.trimPrefix, Lib.hasPrefix, h2, h3]
theorem trim8 (s T : ByteArray) (hT : T.data.toList = unm s.data.toList) (w : World) :
    Calls Try.prog 75 #[.string s, .string ⟨#[45]⟩] w fun e w' => e = .returned (.string T) ∧ w = w' := by
  have h := Try.strings_TrimPrefix s ⟨#[45]⟩ w
  rw [show (⟨#[45]⟩ : ByteArray).data.toList = [45] from rfl, trim45, ← hT] at h
  exact h.mono fun e w' ⟨he, hw⟩ => ⟨he, hw.symm⟩
theorem cutlite8 (s : ByteArray) (hs : s.size ≤ 1048576) (w : World) (p : Nat) (hp : pn s.data.toList = p) :
    Calls Try.prog 86 #[.string s, .string ⟨#[46]⟩] w fun e w' => e = .returned (.tuple #[.string (s.extract 0 p), .string (if p < s.size then s.extract (p + 1) s.size else ByteArray.empty), .bool (decide (p < s.size))]) ∧ Below w.heap.size w w' := by
  have hple : p ≤ s.size := by rw [← hp]; exact pn_le _
  have hix := Lib.hid (fun W => Try.stringslite_Index_one s 46 W)
  have hval := indexByte_pn s.data.toList
  rw [hp, size_len8] at hval
  by_cases hlt : p < s.size
  · rw [if_neg (by omega)] at hval
    have hv := Lib.hid hval
    rw [if_pos hlt, decide_eq_true hlt]
    have hw : IntKind.i64.wrap ((p : Int) + 1) = (p : Int) + 1 := IntWalk.i64_in _ (by omega)
    have hsl1 := fun W => run_slice_string (P := Try.prog) W 9 s .i64 .i64 (0 : Int) (p : Int) Try.underlying9 (by omega) (by omega) (by omega)
    have hsl2 := fun W => run_slice_string (P := Try.prog) W 9 s .i64 .i64 ((p : Int) + 1) (s.size : Int) Try.underlying9 (by omega) (by omega) (by omega)
    have ha1 : ((p : Int) + 1).toNat = p + 1 := by omega
    have hb1 : (p : Int) + 1 ≤ (s.size : Int) := by omega
    have hb0 : (p : Int) ≤ (s.size : Int) := by omega
    have hp0 : (0 : Int) ≤ (p : Int) := by omega
    have hp1 : (0 : Int) ≤ (p : Int) + 1 := by omega
    clear hval
    go_enter Try.func86, Try.ntmps86
    go_wp2_with fail
    refine (hix.out _).mono ?_
    rintro e w1 ⟨rfl, rfl⟩
    rw [hv.out]
    go_wp2_with fail
    go_quiet (fail)
    go_wp2
    go_ret3
    exact ⟨rfl, below_drewN (Below.refl _ _) _⟩
  · obtain rfl : p = s.size := by omega
    rw [if_pos rfl] at hval
    have hv := Lib.hid hval
    rw [if_neg hlt, decide_eq_false hlt]
    have hself := Lib.hid (show s = s.extract 0 s.size by simp)
    clear hval
    go_enter Try.func86, Try.ntmps86
    go_wp2_with fail
    refine (hix.out _).mono ?_
    rintro e w1 ⟨rfl, rfl⟩
    rw [hv.out]
    go_wp2
    go_ret3
    exact ⟨by rw [← hself.out]; rfl, Below.refl _ _⟩
theorem cut8 (s : ByteArray) (hs : s.size ≤ 1048576) (w : World) (p : Nat) (hp : pn s.data.toList = p) :
    Calls Try.prog 73 #[.string s, .string ⟨#[46]⟩] w fun e w' => e = .returned (.tuple #[.string (s.extract 0 p), .string (if p < s.size then s.extract (p + 1) s.size else ByteArray.empty), .bool (decide (p < s.size))]) ∧ Below w.heap.size w w' := by
  have hc := Lib.hid (fun W => cutlite8 s hs W p hp)
  generalize (if p < s.size then s.extract (p + 1) s.size else ByteArray.empty) = f at *
  generalize decide (p < s.size) = d at *
  generalize s.extract 0 p = a at *
  clear hp
  go_enter Try.func73, Try.ntmps73
  go_wp2_with fail
  refine (hc.out _).mono ?_
  rintro e w1 ⟨rfl, hb1⟩
  go_wp2
  go_ret3
  exact ⟨rfl, hb1⟩
theorem front8 (s : ByteArray) (hs : s.size ≤ 1048576) {p : Nat} (hp : pn s.data.toList = p) (w : World) :
    Calls Try.prog 55 #[.string s] w fun e w' => e = .returned (.int .i64 (p : Int)) ∧ Below w.heap.size w w' := by
  have hple : p ≤ s.size := by rw [← hp]; exact pn_le _
  have hc := Lib.hid (fun W => cut8 s hs W p hp)
  have hsz : (s.extract 0 p).size = p := by rw [ByteArray.size_extract]; omega
  generalize (if p < s.size then s.extract (p + 1) s.size else ByteArray.empty) = f at *
  generalize decide (p < s.size) = d at *
  generalize s.extract 0 p = a at *
  clear hp
  subst hsz
  go_enter Try.func55, Try.ntmps55
  go_wp2_with fail
  refine (hc.out _).mono ?_
  rintro e w1 ⟨rfl, hb1⟩
  go_wp2
  go_ret
  exact ⟨rfl, hb1⟩
set_option maxHeartbeats 800000 in
theorem isWrong8 (s : ByteArray) (hs : s.size ≤ 30) {v : Bool} (hv : numL s.data.toList = v) (w : World) :
    Calls Try.prog 53 #[.string s] w fun e w' => e = .returned (.bool (!v)) ∧ Below w.heap.size w w' := by
  obtain ⟨p, hp⟩ : ∃ p, pn s.data.toList = p := ⟨_, rfl⟩
  have hple : p ≤ s.size := by rw [← hp]; exact pn_le _
  have hc := Lib.hid (fun W => cut8 s (by omega) W p hp)
  have hnum := num_impl s.data.toList
  rw [hp, size_len8] at hnum
  have hw1 : (s.extract 0 p).data.toList = s.data.toList.take p := by rw [ext8_data s 0 p (by omega) hple, List.drop_zero]
  obtain ⟨T, hT⟩ : ∃ T : ByteArray, T.data.toList = unm (s.extract 0 p).data.toList := ⟨⟨(unm (s.extract 0 p).data.toList).toArray⟩, rfl⟩
  have htr := Lib.hid (fun W => trim8 (s.extract 0 p) T hT W)
  have hTs : T.size ≤ 30 := by
    have h1 : T.size = (unm (s.extract 0 p).data.toList).length := by rw [← hT]; rfl
    have h2 : (unm (s.extract 0 p).data.toList).length ≤ (s.extract 0 p).data.toList.length := by
      cases (s.extract 0 p).data.toList with
      | nil => exact Nat.le_refl _
      | cons a r => simp only [unm]; split <;> simp
    rw [size_len8, ByteArray.size_extract] at h2
    omega
  rw [← hw1, ← hT] at hnum
  cases h1 : dg T.data.toList with
  | false =>
    have hr : Hid (v = false) := Lib.hid (by rw [← hv, ← hnum, h1]; rfl)
    have hd := Lib.hid (fun W => areDigits8 T hTs h1 W)
    clear hnum hv h1 hT hw1
    generalize (if p < s.size then s.extract (p + 1) s.size else ByteArray.empty) = f at *
    generalize decide (p < s.size) = d at *
    generalize s.extract 0 p = a at *
    go_enter Try.func53, Try.ntmps53
    go_wp2_with fail
    refine (hc.out _).mono ?_
    rintro e w1 ⟨rfl, hb1⟩
    go_wp2_with fail
    refine (htr.out _).mono ?_
    rintro e w2 ⟨rfl, rfl⟩
    go_wp2_with fail
    refine (hd.out _).mono ?_
    rintro e w2 ⟨rfl, rfl⟩
    go_wp2
    go_ret
    exact ⟨by rw [hr.out]; rfl, hb1⟩
  | true =>
    have hd := Lib.hid (fun W => areDigits8 T hTs h1 W)
    by_cases hlt : p < s.size
    · rw [h1, Bool.true_and, decide_eq_false (by omega), Bool.false_or, hv] at hnum
      have hf : (s.extract (p + 1) s.size).data.toList = s.data.toList.drop (p + 1) := by rw [ext8_data s _ _ (by omega) (by omega), List.take_of_length_le (by rw [size_len8]; omega)]
      rw [← hf] at hnum
      have hd2 := Lib.hid (fun W => areDigits8 (s.extract (p + 1) s.size) (by rw [ByteArray.size_extract]; omega) hnum W)
      rw [if_pos hlt, decide_eq_true hlt] at hc
      clear hnum hv h1 hT hw1 hf
      generalize s.extract (p + 1) s.size = f at *
      generalize s.extract 0 p = a at *
      go_enter Try.func53, Try.ntmps53
      go_wp2_with fail
      refine (hc.out _).mono ?_
      rintro e w1 ⟨rfl, hb1⟩
      go_wp2_with fail
      refine (htr.out _).mono ?_
      rintro e w2 ⟨rfl, rfl⟩
      go_wp2_with fail
      refine (hd.out _).mono ?_
      rintro e w2 ⟨rfl, rfl⟩
      go_wp2_with fail
      refine (hd2.out _).mono ?_
      rintro e w2 ⟨rfl, rfl⟩
      go_wp2
      go_ret
      exact ⟨rfl, hb1⟩
    · have hr : Hid (v = true) := Lib.hid (by rw [← hv, ← hnum, h1, decide_eq_true (by omega)]; rfl)
      rw [if_neg hlt, decide_eq_false hlt] at hc
      clear hnum hv h1 hT hw1
      generalize s.extract 0 p = a at *
      go_enter Try.func53, Try.ntmps53
      go_wp2_with fail
      refine (hc.out _).mono ?_
      rintro e w1 ⟨rfl, hb1⟩
      go_wp2_with fail
      refine (htr.out _).mono ?_
      rintro e w2 ⟨rfl, rfl⟩
      go_wp2_with fail
      refine (hd.out _).mono ?_
      rintro e w2 ⟨rfl, rfl⟩
      go_wp2
      go_ret
      exact ⟨by rw [hr.out]; rfl, hb1⟩
theorem decR_2ai {s : ByteArray} {c : Int} (h : inR c 0 119 = false) : decR s c = (0, 2) := by simp [decR, h]
theorem decR_2bi {s : ByteArray} {c : Int} (h : ¬ s.size ≤ 30) : decR s c = (0, 2) := by simp [decR, h]
theorem decR_oki {s : ByteArray} {c : Int} (h : inR c 0 119 = true) (h2 : s.size ≤ 30) : decR s c = if numL s.data.toList = true then (if c < (pn s.data.toList : Int) then (0, 5) else (c - pn s.data.toList, 0)) else (0, 7) := by simp [decR, h, h2]
set_option maxRecDepth 100000 in
set_option maxHeartbeats 1600000 in
theorem dec8_impl (s : ByteArray) (c : Int) (w : World) (hs : s.size ≤ 1048576) (hc : (Lit.int .i64 c).wf = true) :
    Calls Try.prog 20 #[.string s, .int .i64 c] w fun e w' => e = .returned (.tuple #[.int .i64 (decR s c).1, .int .i64 (decR s c).2]) ∧ Below w.heap.size w w' := by
  generalize hr : decR s c = r
  replace hr := Lib.hid hr.symm
  clear hc
  cases h1 : inR c 0 119 with
  | false =>
    have hbad : Hid (r = (0, 2)) := Lib.hid (by rw [hr.out, decR_2ai h1])
    have hc1 := Lib.hid (fun W => col_impl h1 W)
    clear h1 hr
    go_enter Try.func20, Try.ntmps20
    go_wp2_with fail
    refine (hc1.out _).mono ?_
    rintro e w1 ⟨rfl, rfl⟩
    go_wp2
    go_ret2
    exact ⟨ret8_2 hbad.out, Below.refl _ _⟩
  | true =>
    have hc1 := Lib.hid (fun W => col_impl h1 W)
    by_cases h30 : s.size ≤ 30
    · have hlg := Lib.hid (fun W => isLong8 s (decide_eq_false (by omega)) W)
      have hres := Lib.hid (hr.out.trans (decR_oki h1 h30))
      obtain ⟨c0, c1⟩ := inR_iff.1 h1
      cases h2 : numL s.data.toList with
      | false =>
        have hbad : Hid (r = (0, 7)) := Lib.hid (by rw [hres.out, h2]; rfl)
        have hc2 := Lib.hid (fun W => isWrong8 s h30 h2 W)
        clear h1 h2 hr hres
        go_enter Try.func20, Try.ntmps20
        go_wp2_with fail
        refine (hc1.out _).mono ?_
        rintro e w1 ⟨rfl, rfl⟩
        go_wp2_with fail
        refine (hlg.out _).mono ?_
        rintro e w1 ⟨rfl, rfl⟩
        go_wp2_with fail
        refine (hc2.out _).mono ?_
        rintro e w2 ⟨rfl, hb2⟩
        go_wp2
        go_ret2
        exact ⟨ret8_2 hbad.out, hb2⟩
      | true =>
        have hc2 := Lib.hid (fun W => isWrong8 s h30 h2 W)
        have hple := pn_le s.data.toList
        rw [size_len8] at hple
        have hc3 := Lib.hid (fun W => front8 s hs rfl W)
        have hres2 := Lib.hid (hres.out.trans (if_pos h2))
        clear h1 h2 hr hres
        generalize pn s.data.toList = p at *
        have hw : IntKind.i64.wrap (c - (p : Int)) = c - (p : Int) := IntWalk.i64_in _ (by omega)
        by_cases hcp : c < (p : Int)
        · have hbad : Hid (r = (0, 5)) := Lib.hid (by rw [hres2.out, if_pos hcp])
          go_enter Try.func20, Try.ntmps20
          go_wp2_with fail
          refine (hc1.out _).mono ?_
          rintro e w1 ⟨rfl, rfl⟩
          go_wp2_with fail
          refine (hlg.out _).mono ?_
          rintro e w1 ⟨rfl, rfl⟩
          go_wp2_with fail
          refine (hc2.out _).mono ?_
          rintro e w2 ⟨rfl, hb2⟩
          go_wp2_with fail
          refine (hc3.out _).mono ?_
          rintro e w3 ⟨rfl, hb3⟩
          go_wp2
          go_ret2
          exact ⟨ret8_2 hbad.out, hb2.step hb3⟩
        · have hgood : Hid (r = (c - (p : Int), 0)) := Lib.hid (by rw [hres2.out, if_neg hcp])
          go_enter Try.func20, Try.ntmps20
          go_wp2_with fail
          refine (hc1.out _).mono ?_
          rintro e w1 ⟨rfl, rfl⟩
          go_wp2_with fail
          refine (hlg.out _).mono ?_
          rintro e w1 ⟨rfl, rfl⟩
          go_wp2_with fail
          refine (hc2.out _).mono ?_
          rintro e w2 ⟨rfl, hb2⟩
          go_wp2_with fail
          refine (hc3.out _).mono ?_
          rintro e w3 ⟨rfl, hb3⟩
          go_wp2_with fail
          refine (hc3.out _).mono ?_
          rintro e w4 ⟨rfl, hb4⟩
          go_wp2
          go_ret2
          exact ⟨ret8_2 hgood.out, (hb2.step hb3).step hb4⟩
    · have hlg := Lib.hid (fun W => isLong8 s (decide_eq_true (by omega)) W)
      have hbad : Hid (r = (0, 2)) := Lib.hid (by rw [hr.out, decR_2bi h30])
      clear h1 hr
      go_enter Try.func20, Try.ntmps20
      go_wp2_with fail
      refine (hc1.out _).mono ?_
      rintro e w1 ⟨rfl, rfl⟩
      go_wp2_with fail
      refine (hlg.out _).mono ?_
      rintro e w1 ⟨rfl, rfl⟩
      go_wp2
      go_ret2
      exact ⟨ret8_2 hbad.out, Below.refl _ _⟩
end Go.Proofs.Ytmgoidngecimbaa
