/- Moves of the carriage: the model's MovesBetween, PlanBetween and RowPlan. -/
import Derived.Test.YtcmmcgjpaabnoaaTm3
import Derived.Lib.AppendStr
namespace Go.Proofs.Ytcmmcgjpaabnoaa
open Go.RowKit Go.ChangeShapes Go.WideShapes Go.Deep
set_option linter.unusedVariables false
set_option linter.unusedSimpArgs false

theorem code11 (A : Option Addr) (n c : Nat) (ps : List Int) (a b : Int) {v : Int} (hv : mvC ps a b = v) (w : World) (h : Ints w A n ps) (hn : n ≤ 1048576) :
    Calls Try.prog 37 #[.slice A n c, .int .i64 a, .int .i64 b] w fun e w' => e = .returned (.int .i64 v) ∧ Below w.heap.size w w' := by
  cases h1 : stB ps with
  | false =>
    have hr : Hid (v = 1) := Lib.hid (by rw [← hv, mvC, h1]; rfl)
    have hc := Lib.hid (ok11 A n c ps h1 w h hn)
    clear hv h1
    go_enter Try.func37, Try.ntmps37
    go_wp2_with fail
    refine hc.out.mono ?_
    rintro e w1 ⟨rfl, hb1⟩
    go_wp2
    go_ret
    exact ⟨ret_i64 hr.out.symm, hb1⟩
  | true =>
    have hc := Lib.hid (ok11 A n c ps h1 w h hn)
    cases h2 : inR a 0 30 with
    | false =>
      have hr : Hid (v = 2) := Lib.hid (by rw [← hv, mvC, h1, h2]; rfl)
      have hc2 := Lib.hid (fun W => col11 h2 W)
      clear hv h1 h2
      go_enter Try.func37, Try.ntmps37
      go_wp2_with fail
      refine hc.out.mono ?_
      rintro e w1 ⟨rfl, hb1⟩
      go_wp2_with fail
      refine (hc2.out _).mono ?_
      rintro e w2 ⟨rfl, rfl⟩
      go_wp2
      go_ret
      exact ⟨ret_i64 hr.out.symm, hb1⟩
    | true =>
      have hc2 := Lib.hid (fun W => col11 h2 W)
      obtain ⟨u, h3⟩ : ∃ u, inR b 0 30 = u := ⟨_, rfl⟩
      have hc3 := Lib.hid (fun W => col11 h3 W)
      have hr : Hid (v = if u = true then 0 else 2) := Lib.hid (by rw [← hv, mvC, h1, h2, h3]; rfl)
      clear hv h1 h2 h3
      cases u with
      | false =>
        go_enter Try.func37, Try.ntmps37
        go_wp2_with fail
        refine hc.out.mono ?_
        rintro e w1 ⟨rfl, hb1⟩
        go_wp2_with fail
        refine (hc2.out _).mono ?_
        rintro e w2 ⟨rfl, rfl⟩
        go_wp2_with fail
        refine (hc3.out _).mono ?_
        rintro e w2 ⟨rfl, rfl⟩
        go_wp2
        go_ret
        exact ⟨ret_i64 hr.out.symm, hb1⟩
      | true =>
        go_enter Try.func37, Try.ntmps37
        go_wp2_with fail
        refine hc.out.mono ?_
        rintro e w1 ⟨rfl, hb1⟩
        go_wp2_with fail
        refine (hc2.out _).mono ?_
        rintro e w2 ⟨rfl, rfl⟩
        go_wp2_with fail
        refine (hc3.out _).mono ?_
        rintro e w2 ⟨rfl, rfl⟩
        go_wp2
        go_ret
        exact ⟨ret_i64 hr.out.symm, hb1⟩
set_option maxHeartbeats 1600000 in
theorem mb11_specC (A : Option Addr) (n c : Nat) (ps : List Int) (a b : Int) (w : World) (h : Ints w A n ps) (hn : n ≤ 1048576) :
    Calls Try.prog 15 #[.slice A n c, .int .i64 a, .int .i64 b] w fun e w' => e = .returned (.tuple #[.int .i64 (mbR ps a b).1, .int .i64 (mbR ps a b).2]) ∧ Below w.heap.size w w' := by
  generalize hr : mbR ps a b = r
  replace hr := Lib.hid hr.symm
  obtain ⟨q, hq⟩ : ∃ q, mvC ps a b = q := ⟨_, rfl⟩
  have hc := Lib.hid (code11 A n c ps a b hq w h hn)
  by_cases h0 : q = 0
  · subst h0
    obtain ⟨_, a1, a2, b1, b2⟩ := mvC_ok hq
    obtain ⟨a, rfl⟩ : ∃ a' : Nat, a = (a' : Int) := ⟨a.toNat, by omega⟩
    obtain ⟨b, rfl⟩ : ∃ b' : Nat, b = (b' : Int) := ⟨b.toNat, by omega⟩
    have hgood : Hid (r = (farP ps b a, 0)) := Lib.hid (by rw [hr.out, mbR, if_pos hq, Int.toNat_natCast, Int.toNat_natCast])
    have hfar := Lib.hid (fun W hW => far11 A n c ps b (by omega) W hW hn)
    have hwa : IntKind.i64.wrap (a : Int) = (a : Int) := IntWalk.i64_in _ (by omega)
    have ha3 : (a : Int) < 31 := by omega
    have ha4 : a < 31 := by omega
    clear hq
    go_enter Try.func15, Try.ntmps15
    go_wp2_with fail
    refine hc.out.mono ?_
    rintro e w1 ⟨rfl, hb1⟩
    have hS := h.below hb1
    go_wp2_with fail
    refine (hfar.out _ hS).mono ?_
    rintro e w2 ⟨g, L, rfl, hg, hO, hF, hb2⟩
    obtain ⟨c0, f0, l0, _⟩ := OInts.partsI hO ha4
    have he := hF.eq (a := a) (by omega)
    rw [he] at c0
    replace he := Lib.hid he
    replace hF := Lib.hid hF
    replace hO := Lib.hid hO
    have hbe := Lib.hid (hb1.step hb2)
    clear hb1 hb2
    go_wp2
    go_ret2
    exact ⟨ret8_2 hgood.out, hbe.out⟩
  · have hbad : Hid (r = (0, q)) := Lib.hid (by rw [hr.out, mbR, hq, if_neg h0])
    have g0 : (q == 0) = false := beq_eq_false_iff_ne.2 h0
    replace h0 := Lib.hid h0
    clear hq
    go_enter Try.func15, Try.ntmps15
    go_wp2_with fail
    refine hc.out.mono ?_
    rintro e w1 ⟨rfl, hb1⟩
    go_wp2
    go_ret2
    exact ⟨ret8_2 hbad.out, hb1⟩
set_option maxHeartbeats 1600000 in
theorem pb11_specC (A : Option Addr) (n c : Nat) (ps : List Int) (a b : Int) (w : World) (h : Ints w A n ps) (hn : n ≤ 1048576) :
    Calls Try.prog 17 #[.slice A n c, .int .i64 a, .int .i64 b] w fun e w' => e = .returned (.tuple #[.string (pbR ps a b).1, .int .i64 (pbR ps a b).2]) ∧ Below w.heap.size w w' := by
  generalize hr : pbR ps a b = r
  replace hr := Lib.hid hr.symm
  obtain ⟨q, hq⟩ : ∃ q, mvC ps a b = q := ⟨_, rfl⟩
  have hc := Lib.hid (code11 A n c ps a b hq w h hn)
  by_cases h0 : q = 0
  · subst h0
    obtain ⟨_, a1, a2, b1, b2⟩ := mvC_ok hq
    obtain ⟨a, rfl⟩ : ∃ a' : Nat, a = (a' : Int) := ⟨a.toNat, by omega⟩
    obtain ⟨b, rfl⟩ : ∃ b' : Nat, b = (b' : Int) := ⟨b.toNat, by omega⟩
    have hgood : Hid (r = (⟨(wayP ps b a).toArray⟩, 0)) := Lib.hid (by rw [hr.out, pbR, if_pos hq, Int.toNat_natCast, Int.toNat_natCast])
    have hfar := Lib.hid (fun W hW => far11 A n c ps b (by omega) W hW hn)
    have hmv := Lib.hid (fun g L hF W hW hg => moves11 A n c ps b g L a (by omega) (by omega) hF W hW hn hg)
    clear hq
    go_enter Try.func17, Try.ntmps17
    go_wp2_with fail
    refine hc.out.mono ?_
    rintro e w1 ⟨rfl, hb1⟩
    have hS := h.below hb1
    go_wp2_with fail
    refine (hfar.out _ hS).mono ?_
    rintro e w2 ⟨g, L, rfl, hg, hO, hF, hb2⟩
    have hS2 := hS.below hb2
    have hm2 := Lib.hid (hmv.out g L hF w2 hS2 hO.srow)
    have hbe := Lib.hid (hb1.step hb2)
    clear hO hF hb1 hb2 hmv
    generalize (⟨(wayP ps b a).toArray⟩ : ByteArray) = T at *
    go_wp2_with fail
    refine hm2.out.mono ?_
    rintro e w3 ⟨rfl, hb3⟩
    go_wp2
    go_ret2
    exact ⟨ret_s10 hgood.out, hbe.out.step hb3⟩
  · have hbad : Hid (r = (ByteArray.empty, q)) := Lib.hid (by rw [hr.out, pbR, hq, if_neg h0])
    have g0 : (q == 0) = false := beq_eq_false_iff_ne.2 h0
    replace h0 := Lib.hid h0
    clear hq
    go_enter Try.func17, Try.ntmps17
    go_wp2_with fail
    refine hc.out.mono ?_
    rintro e w1 ⟨rfl, hb1⟩
    go_wp2
    go_ret2
    exact ⟨ret_s10 hbad.out, hb1⟩
/-- A row. -/
def rowB (s : ByteArray) : Bool := (decide ((s.size : Int) ≤ 30) && bytesIn 32 126 s) && (decide (s.size = 0) || !decide ((bAt s (s.size - 1)).toNat = 32))
theorem rowB_size {s : ByteArray} (h : rowB s = true) : s.size ≤ 30 := by simp only [rowB, Bool.and_eq_true, decide_eq_true_eq] at h; omega
theorem isEmpty11 (s : ByteArray) (h : ¬ s.size = 0) : s.toList.isEmpty = false := by
  rw [ByteArray.toList_eq]
  have : s.data.toList.length = s.size := rfl
  cases h1 : s.data.toList with
  | nil => rw [h1] at this; exact absurd this.symm h
  | cons a r => rfl
theorem row11 (s : ByteArray) {v : Bool} (hv : rowB s = v) (w : World) (hs : s.size ≤ maxLen) :
    Calls Try.prog 43 #[.string s] w fun e w' => e = .returned (.bool v) ∧ w = w' := by
  have hc := Lib.hid (fun W => text_spec s 30 (decide ((s.size : Int) ≤ 30) && bytesIn 32 126 s) rfl W hs)
  unfold maxLen at hs
  have hres := Lib.hid hv
  unfold rowB at hres
  clear hv
  generalize (decide ((s.size : Int) ≤ 30) && bytesIn 32 126 s) = t at *
  cases t with
  | false =>
    have hr : Hid (v = false) := Lib.hid (by rw [← hres.out]; rfl)
    go_enter Try.func43, Try.ntmps43
    go_wp2_with fail
    refine (hc.out _).mono ?_
    rintro e w1 ⟨rfl, rfl⟩
    go_wp2
    go_ret
    exact ⟨ret_bo hr.out.symm, rfl⟩
  | true =>
    by_cases h0 : s.size = 0
    · have hr : Hid (v = true) := Lib.hid (by rw [← hres.out, decide_eq_true h0]; rfl)
      have hx0 : s = ⟨#[]⟩ := by
        have : s.data = #[] := Array.eq_empty_of_size_eq_zero h0
        cases s; cases this; rfl
      subst hx0
      clear hres
      go_enter Try.func43, Try.ntmps43
      go_wp2_with fail
      refine (hc.out _).mono ?_
      rintro e w1 ⟨rfl, rfl⟩
      go_wp2
      go_ret
      exact ⟨ret_bo hr.out.symm, rfl⟩
    · have g1 := isEmpty11 s h0
      have hq : s.size - 1 < s.size := by omega
      have k2 : (0 : Int) ≤ (s.size : Int) - 1 := by omega
      have k3 : (s.size : Int) - 1 < (s.size : Int) := by omega
      have k4 : ((s.size : Int) - 1).toNat = s.size - 1 := by omega
      have hw1 : IntKind.i64.wrap ((s.size : Int) - 1) = (s.size : Int) - 1 := IntWalk.i64_in _ (by omega)
      have hr : Hid (v = !decide ((s[s.size - 1]'hq).toNat = 32)) := Lib.hid (by rw [← hres.out, decide_eq_false h0, bAt_eq hq]; rfl)
      replace h0 := Lib.hid h0
      clear hres
      by_cases h32 : (s[s.size - 1]'hq).toNat = 32
      · have hr2 : Hid (v = false) := Lib.hid (by rw [hr.out, decide_eq_true h32]; rfl)
        have b1 : (((s[s.size - 1]'hq).toNat : Int) == 32) = true := beq_iff_eq.2 (by omega)
        have b2 : (((s[s.size - 1]'hq).toNat : Int) != 32) = false := by rw [bne, b1]; rfl
        have b3 : ((s[s.size - 1]'hq).toNat == 32) = true := beq_iff_eq.2 h32
        replace h32 := Lib.hid h32
        go_enter Try.func43, Try.ntmps43
        go_wp2_with fail
        refine (hc.out _).mono ?_
        rintro e w1 ⟨rfl, rfl⟩
        go_wp2
        go_ret
        exact ⟨ret_bo hr2.out.symm, rfl⟩
      · have hr2 : Hid (v = true) := Lib.hid (by rw [hr.out, decide_eq_false h32]; rfl)
        have b1 : (((s[s.size - 1]'hq).toNat : Int) == 32) = false := beq_eq_false_iff_ne.2 (by omega)
        have b2 : (((s[s.size - 1]'hq).toNat : Int) != 32) = true := by rw [bne, b1]; rfl
        have b3 : ((s[s.size - 1]'hq).toNat == 32) = false := beq_eq_false_iff_ne.2 h32
        replace h32 := Lib.hid h32
        go_enter Try.func43, Try.ntmps43
        go_wp2_with fail
        refine (hc.out _).mono ?_
        rintro e w1 ⟨rfl, rfl⟩
        go_wp2
        go_ret
        exact ⟨ret_bo hr2.out.symm, rfl⟩
/-- The plan of the first bytes of a row: its text, the column behind it, its moves. -/
noncomputable def plS (ps : List Int) (s : ByteArray) : Nat → List UInt8 × Nat × Nat
  | 0 => ([], 0, 0)
  | k + 1 => if (bAt s k).toNat = 32 then plS ps s k else ((plS ps s k).1 ++ wayP ps k (plS ps s k).2.1 ++ [39, bAt s k], k + 1, (plS ps s k).2.2 + (wayP ps k (plS ps s k).2.1).length)
noncomputable def rpR (ps : List Int) (s : ByteArray) : ByteArray × Int := if stB ps = true then (if rowB s = true then (⟨(plS ps s s.size).1.toArray⟩, 0) else (ByteArray.empty, 2)) else (ByteArray.empty, 1)
theorem plS_at (ps : List Int) (s : ByteArray) : ∀ k, (plS ps s k).2.1 ≤ k
  | 0 => Nat.le_refl _
  | k + 1 => by
    have := plS_at ps s k
    rw [plS]
    split
    · omega
    · exact Nat.le_refl _
theorem wayP_len {ps : List Int} {to : Nat} (hto : to ≤ 30) {D : Nat → Int} (h : IsFar ps to D) {a : Nat} (ha : a ≤ 30) : ((wayP ps to a).length : Int) = farP ps to a ∧ (wayP ps to a).length ≤ 30 := by
  have h1 := wayX_len h ha
  rw [way_farP hto h ha] at h1
  have h2 := far_30 hto h.zero h.step ha
  exact ⟨by rw [← h.eq ha]; exact h1, by omega⟩
end Go.Proofs.Ytcmmcgjpaabnoaa
