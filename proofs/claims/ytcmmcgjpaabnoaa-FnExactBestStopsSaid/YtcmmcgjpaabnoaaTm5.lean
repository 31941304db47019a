/- Moves of the carriage: the model's plan of a row. -/
import Derived.Test.YtcmmcgjpaabnoaaTm4
namespace Go.Proofs.Ytcmmcgjpaabnoaa
open Go.RowKit Go.ChangeShapes Go.WideShapes Go.Deep
set_option linter.unusedVariables false
set_option linter.unusedSimpArgs false

theorem plS_space {ps : List Int} {s : ByteArray} {k : Nat} (h : (bAt s k).toNat = 32) : plS ps s (k + 1) = plS ps s k := by rw [plS, if_pos h]
theorem plS_letter {ps : List Int} {s : ByteArray} {k : Nat} (h : ¬ (bAt s k).toNat = 32) : plS ps s (k + 1) = ((plS ps s k).1 ++ wayP ps k (plS ps s k).2.1 ++ [39, bAt s k], k + 1, (plS ps s k).2.2 + (wayP ps k (plS ps s k).2.1).length) := by rw [plS, if_neg h]
theorem news2 (w : World) (a b : Value) (T : TypeId) : ∀ j u, [a, b][j]? = some u → (w.alloc (.cells #[a, b] T)).cell? ((⟨w.heap.size, 0, none⟩ : Addr).add j) = some u := by
  intro j u hu
  match j, hu with
  | 0, hu => cases hu; exact cell_new (by simp [Addr.add]) rfl
  | 1, hu => cases hu; exact cell_new (by simp [Addr.add]) rfl
  | j + 2, hu => simp at hu
theorem byt_two (x y : Int) : ∀ u ∈ [Value.int .u8 x, Value.int .u8 y], u.oneCell' = true := by
  intro u hu
  simp only [List.mem_cons, List.not_mem_nil, or_false] at hu
  rcases hu with rfl | rfl <;> rfl
theorem byt_add2 (l : List UInt8) (b c : UInt8) (x y : Int) (h : (b.toNat : Int) = x) (k : (c.toNat : Int) = y) : (l ++ [b, c]).map bytU = l.map bytU ++ [.int .u8 x, .int .u8 y] := by
  rw [List.map_append, ← h, ← k]; rfl
set_option maxRecDepth 100000 in
set_option maxHeartbeats 6400000 in
theorem plan11 (A : Option Addr) (n c : Nat) (ps : List Int) (s : ByteArray) (hs : s.size ≤ 30) (w : World) (h : Ints w A n ps) (hn : n ≤ 1048576) :
    Calls Try.prog 44 #[.slice A n c, .string s] w fun e w' => e = .returned (.tuple #[.string ⟨(plS ps s s.size).1.toArray⟩, .int .i64 ((plS ps s s.size).2.2 : Int)]) ∧ Below w.heap.size w w' := by
  obtain ⟨i0, hi, hz0, hz1, hz2⟩ := info_parts Try.infoByt
  go_enter Try.func44, Try.ntmps44
  go_wp2
  go_loopw [6, 7, 8, 9, 10] (fun v at' mv i _ wr => ∃ (k a m : Nat) (O : List UInt8), k ≤ s.size ∧ i = .int .i64 (k : Int) ∧ at' = .int .i64 (a : Int) ∧ mv = .int .i64 (m : Int) ∧ plS ps s k = (O, a, m) ∧ O.length ≤ 32 * k ∧ m ≤ 30 * k ∧ Below w.heap.size w wr ∧ OByt wr w.heap.size v O) (fun _ _ _ i _ _ => s.size - (intOf i).toNat)
  case atStart => exact ⟨0, 0, 0, [], by omega, rfl, rfl, rfl, rfl, by simp, by omega, below_a1 _ _, byt_new w⟩
  case round =>
    rename World => wr
    obtain ⟨k, a, m, O, hk, rfl, rfl, rfl, hpl, hOl, hml, hbw, hO⟩ := hrel
    have hwz := hbw.size
    by_cases hlt : k < s.size
    · have hk0 : (0 : Int) ≤ (k : Int) := Int.natCast_nonneg _
      have hk1 : (k : Int) < (s.size : Int) := by omega
      have hbk := bAt_eq hlt
      have hak : a ≤ k := by have := plS_at ps s k; rw [hpl] at this; exact this
      by_cases h32 : (s[k]'hlt).toNat = 32
      · have b1 : (((s[k]'hlt).toNat : Int) == 32) = true := beq_iff_eq.2 (by omega)
        have b3 : ((s[k]'hlt).toNat == 32) = true := beq_iff_eq.2 h32
        have hnx : Hid (plS ps s (k + 1) = (O, a, m)) := Lib.hid (by rw [plS_space (by rw [hbk]; exact h32), hpl])
        replace h32 := Lib.hid h32
        replace hbk := Lib.hid hbk
        replace hpl := Lib.hid hpl
        replace hO := Lib.hid hO
        go_wp2
        go_roundw
        case rel => exact ⟨k + 1, a, m, O, by omega, by go_num, rfl, rfl, hnx.out, by omega, by omega, hbw, hO.out⟩
        case measure => simp [intOf]; omega
      · have b1 : (((s[k]'hlt).toNat : Int) == 32) = false := beq_eq_false_iff_ne.2 (by omega)
        have b3 : ((s[k]'hlt).toNat == 32) = false := beq_eq_false_iff_ne.2 h32
        have hnx := plS_letter (ps := ps) (s := s) (k := k) (by rw [hbk]; exact h32)
        rw [hpl] at hnx
        simp only [hbk] at hnx
        have hfar := Lib.hid (far11 A n c ps k (by omega) wr (h.below hbw) hn)
        have hmv := Lib.hid (fun g L hF W hW hg => moves11 A n c ps k g L a (by omega) (by omega) hF W hW hn hg)
        have hwl := Lib.hid (fun D (hD : IsFar ps k D) => (wayP_len (show k ≤ 30 by omega) hD (show a ≤ 30 by omega)).2)
        obtain ⟨T, hT⟩ : ∃ T, wayP ps k a = T := ⟨_, rfl⟩
        rw [hT] at hnx hmv hwl
        have hS0 := Lib.hid (h.below hbw)
        replace hnx := Lib.hid hnx
        replace h32 := Lib.hid h32
        replace hbk := Lib.hid hbk
        replace hpl := Lib.hid hpl
        replace hT := Lib.hid hT
        have hO1 := Lib.hid hO
        obtain ⟨A5, c5', rfl⟩ := byt_form hO
        clear hO
        have hwk : IntKind.i64.wrap (k : Int) = (k : Int) := IntWalk.i64_in _ (by omega)
        have hwk1 : IntKind.i64.wrap ((k : Int) + 1) = ((k + 1 : Nat) : Int) := by rw [IntWalk.i64_in _ (by omega)]; omega
        go_wp2_with fail
        refine hfar.out.mono ?_
        rintro e w2 ⟨g, L, rfl, hg, hOg, hF, hb2⟩
        have hTl := hwl.out _ hF
        have hm2 := Lib.hid (hmv.out g L hF w2 (hS0.out.below hb2) hOg.srow)
        have hO2 := Lib.hid (own_keep10 hO1.out hb2)
        have hbw2 := below_step10 hbw hb2 hwz
        have hz2' := hbw2.size
        clear hO1 hOg hF hb2 hmv hfar hS0 hwl
        have hTs : (⟨T.toArray⟩ : ByteArray).size = T.length := by simp [ByteArray.size]
        have hTc : Hid (Lib.strCells ⟨T.toArray⟩ = T.map bytU) := Lib.hid rfl
        go_wp2_with fail
        refine hm2.out.mono ?_
        rintro e w3 ⟨rfl, hb3⟩
        have hO3 := Lib.hid (own_keep10 hO2.out hb3)
        have hbw3 := below_step10 hbw2 hb3 hz2'
        have hz3 := hbw3.size
        clear hO2 hb3 hbw2 hm2
        have hwT : IntKind.i64.wrap ((m : Int) + (T.length : Int)) = ((m + T.length : Nat) : Int) := by rw [IntWalk.i64_in _ (by omega)]; omega
        have hwT2 : IntKind.i64.wrap (T.length : Int) = (T.length : Int) := IntWalk.i64_in _ (by omega)
        obtain ⟨TB, hTB⟩ : ∃ TB : ByteArray, (⟨T.toArray⟩ : ByteArray) = TB := ⟨_, rfl⟩
        rw [hTB] at hTs hTc ⊢
        replace hTB := Lib.hid hTB
        rw [← hTs] at hwT hwT2
        replace hTs := Lib.hid hTs
        go_wp2_with (at_builtin; refine Lib.wpList_append_own_string _ rfl _ _ 58 9 rfl w.heap.size 5 i0 Try.underlying58 Try.underlying9 hi hz0 hz1 hz2 _ _ _ rfl hO3.out TB rfl (by have := hTs.out; unfold maxLen; omega) (by have := hTs.out; omega) hz3 ?_)
        intro v4 w4 hown4 hgr4 hnil4
        have hbw4 := Lib.hid (hbw3.grown hgr4 hz3 (fun j hj => owns_ge8 hO3.out hj))
        have hz4 := hbw4.out.size
        have hO4 : Hid (OByt w4 w.heap.size v4 (O ++ T)) := Lib.hid (by
          show w4.ownsRow _ _ _ _ _ _
          rw [List.map_append, List.length_append, ← hTc.out, ← hTs.out]
          exact hown4)
        have hOT : (O ++ T).length ≤ 32 * k + 30 := by rw [List.length_append]; omega
        clear hown4 hgr4 hnil4 hO3 hbw3
        generalize O ++ T = OT at *
        obtain ⟨A6, c6', rfl⟩ := byt_form hO4.out
        go_wp2_with (at_builtin; refine wpList_append_own _ rfl _ _ 58 rfl w.heap.size 5 i0 _ 1 1 Try.underlying58 hi hz0 hz1 hz2 rfl (by decide) _ _ _ rfl (hO4.out.alloc _) ⟨w4.heap.size, 0, none⟩ 2 2 [.int .u8 39, .int .u8 ((s[k]'hlt).toNat : Int)] rfl rfl (news2 _ _ _ _) (byt_two _ _) (by unfold maxLen; omega) (by omega) (by simp; omega) ?_)
        intro vqq wqq hownqq hgrqq hnilqq
        have hgqqq := grown_trans (grown_below (below_a1 w4 _) _) hgrqq
        clear hgrqq hnilqq
        have hq : Hid (wqq.ownsRow w.heap.size 5 1 vqq ((OT ++ [39, s[k]'hlt]).length) ((OT ++ [39, s[k]'hlt]).map bytU) ∧ Below w.heap.size w wqq) := Lib.hid ⟨by rw [byt_add2 _ 39 (s[k]'hlt) 39 _ rfl rfl, List.length_append]; exact hownqq, hbw4.out.grown hgqqq hz4 (fun j hj => owns_ge8 hO4.out hj)⟩
        clear hownqq hgqqq hO4 hbw4
        have hln : Hid ((OT ++ [39, s[k]'hlt]).length ≤ 32 * (k + 1)) := Lib.hid (by rw [List.length_append]; simp only [List.length_cons, List.length_nil]; omega)
        have hcm : Hid (((m + TB.size : Nat)) ≤ 30 * (k + 1)) := Lib.hid (by have := hTs.out; omega)
        rw [← hTs.out] at hnx
        go_wp2
        go_roundw
        case rel => exact ⟨k + 1, k + 1, m + TB.size, _, by omega, by go_num, by first | rfl | go_num, by first | rfl | go_num, hnx.out, hln.out, hcm.out, hq.out.2, hq.out.1⟩
        case measure => simp [intOf]; omega
    · obtain rfl : k = s.size := by omega
      have gk : ¬ (s.size : Int) < (s.size : Int) := by omega
      have hfin : Hid ((⟨O.toArray⟩ : ByteArray) = ⟨(plS ps s s.size).1.toArray⟩ ∧ (m : Int) = ((plS ps s s.size).2.2 : Int)) := Lib.hid (by rw [hpl]; exact ⟨rfl, rfl⟩)
      have hconv := byt_conv hO
      obtain ⟨A5, c5', rfl⟩ := byt_form hO
      rw [hfin.out.1] at hconv
      replace hpl := Lib.hid hpl
      clear hO
      go_wp2
      go_ret2
      exact ⟨by rw [hfin.out.2]; rfl, hbw⟩
set_option maxHeartbeats 1600000 in
theorem rp11_specC (A : Option Addr) (n c : Nat) (ps : List Int) (s : ByteArray) (w : World) (h : Ints w A n ps) (hn : n ≤ 1048576) (hs : s.size ≤ 1048576) :
    Calls Try.prog 19 #[.slice A n c, .string s] w fun e w' => e = .returned (.tuple #[.string (rpR ps s).1, .int .i64 (rpR ps s).2]) ∧ Below w.heap.size w w' := by
  generalize hr : rpR ps s = r
  replace hr := Lib.hid hr.symm
  cases h1 : stB ps with
  | false =>
    have hbad : Hid (r = (ByteArray.empty, 1)) := Lib.hid (by rw [hr.out, rpR, h1]; rfl)
    have hc := Lib.hid (ok11 A n c ps h1 w h hn)
    clear h1
    go_enter Try.func19, Try.ntmps19
    go_wp2_with fail
    refine hc.out.mono ?_
    rintro e w1 ⟨rfl, hb1⟩
    go_wp2
    go_ret2
    exact ⟨ret_s10 hbad.out, hb1⟩
  | true =>
    have hc := Lib.hid (ok11 A n c ps h1 w h hn)
    cases h2 : rowB s with
    | false =>
      have hbad : Hid (r = (ByteArray.empty, 2)) := Lib.hid (by rw [hr.out, rpR, h1, h2]; rfl)
      have hc2 := Lib.hid (fun W => row11 s h2 W (by unfold maxLen; omega))
      clear h1 h2
      go_enter Try.func19, Try.ntmps19
      go_wp2_with fail
      refine hc.out.mono ?_
      rintro e w1 ⟨rfl, hb1⟩
      go_wp2_with fail
      refine (hc2.out _).mono ?_
      rintro e w2 ⟨rfl, rfl⟩
      go_wp2
      go_ret2
      exact ⟨ret_s10 hbad.out, hb1⟩
    | true =>
      have hc2 := Lib.hid (fun W => row11 s h2 W (by unfold maxLen; omega))
      have hgood : Hid (r = (⟨(plS ps s s.size).1.toArray⟩, 0)) := Lib.hid (by rw [hr.out, rpR, h1, h2, if_pos rfl, if_pos rfl])
      have hpl := Lib.hid (fun W hW => plan11 A n c ps s (rowB_size h2) W hW hn)
      clear h1 h2
      generalize (⟨(plS ps s s.size).1.toArray⟩ : ByteArray) = T at *
      generalize (plS ps s s.size).2.2 = M at *
      go_enter Try.func19, Try.ntmps19
      go_wp2_with fail
      refine hc.out.mono ?_
      rintro e w1 ⟨rfl, hb1⟩
      have hS := h.below hb1
      go_wp2_with fail
      refine (hc2.out _).mono ?_
      rintro e w2 ⟨rfl, rfl⟩
      go_wp2_with fail
      refine (hpl.out _ hS).mono ?_
      rintro e w2 ⟨rfl, hb2⟩
      go_wp2
      go_ret2
      exact ⟨ret_s10 hgood.out, hb1.step hb2⟩
end Go.Proofs.Ytcmmcgjpaabnoaa
