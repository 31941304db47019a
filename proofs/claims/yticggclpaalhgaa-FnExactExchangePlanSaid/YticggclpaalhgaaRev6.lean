/- Bytes of a text turned round in place, and the row for the other hand: the program's functions. -/
import Derived.Test.YticggclpaalhgaaMir6
import Derived.BigRegion
import Derived.Lib.ConvBytes
namespace Go.Proofs.Yticggclpaalhgaa
open Go.RowKit Go.ChangeShapes Go.WideShapes Go.Deep
set_option linter.unusedVariables false
set_option linter.unusedSimpArgs false

/-- The cells of block G from its head on are the bytes l. -/
structure BRow (w : World) (G : Nat) (l : List UInt8) : Prop where
  cell : ∀ i b, l[i]? = some b → w.cell? ⟨G, i, none⟩ = some (.int .u8 (b.toNat : Int))
  free : ∀ i, i < l.length → w.frozen? ⟨G, i, none⟩ = false
theorem BRow.set {w : World} {G : Nat} {l : List UInt8} (h : BRow w G l) {i : Nat} {b : UInt8} (hi : i < l.length) : BRow (w.setCell ⟨G, i, none⟩ (.int .u8 (b.toNat : Int))) G (l.set i b) := by
  refine ⟨fun j c hj => ?_, fun j hj => (World.frozen?_setCell _ _ _ _).trans (h.free j (by simpa using hj))⟩
  by_cases e : j = i
  · subst e
    rw [List.getElem?_set_self hi] at hj
    cases hj
    exact World.cell?_setCell_same _ _ _ (h.cell j _ (List.getElem?_eq_getElem hi))
  · rw [List.getElem?_set_ne (fun e2 => e e2.symm)] at hj
    rw [World.cell?_setCell_other _ _ _ _ (fun e2 => e (by injection e2 with _ h9 _; exact h9.symm))]
    exact h.cell j c hj
/-- The first k bytes and the last k ones are exchanged. -/
def revAt (l : List UInt8) (k : Nat) (L : List UInt8) : Prop := L.length = l.length ∧ ∀ i, i < l.length → L[i]? = if i < k ∨ l.length ≤ i + k then l[l.length - 1 - i]? else l[i]?
theorem revAt_end {l L : List UInt8} {k : Nat} (h : revAt l k L) (hk : l.length ≤ 2 * k + 1) : L = l.reverse := by
  refine List.ext_getElem? fun i => ?_
  rcases Nat.lt_or_ge i l.length with hi | hi
  · rw [h.2 i hi, List.getElem?_reverse hi]
    split
    · rfl
    · rw [show l.length - 1 - i = i by omega]
  · rw [List.getElem?_eq_none (by rw [h.1]; exact hi), List.getElem?_eq_none (by simpa using hi)]
theorem revAt_step {l L : List UInt8} {k : Nat} (h : revAt l k L) (hk : 2 * k + 1 < l.length) {x y : UInt8} (hx : L[k]? = some x) (hy : L[l.length - 1 - k]? = some y) : revAt l (k + 1) ((L.set k y).set (l.length - 1 - k) x) := by
  refine ⟨by simp [h.1], fun i hi => ?_⟩
  have h1 := h.2 k (by omega)
  have h2 := h.2 (l.length - 1 - k) (by omega)
  rw [if_neg (by omega)] at h1 h2
  rw [hx] at h1
  rw [hy] at h2
  by_cases e1 : i = l.length - 1 - k
  · subst e1
    rw [List.getElem?_set_self (by simp [h.1]; omega), if_pos (by omega), show l.length - 1 - (l.length - 1 - k) = k by omega]
    exact h1
  · rw [List.getElem?_set_ne (fun e => e1 e.symm)]
    by_cases e2 : i = k
    · subst e2
      rw [List.getElem?_set_self (by rw [h.1]; omega), if_pos (by omega)]
      exact h2
    · rw [List.getElem?_set_ne (fun e => e2 e.symm), h.2 i hi]
      by_cases e3 : i < k ∨ l.length ≤ i + k
      · rw [if_pos e3, if_pos (by omega)]
      · rw [if_neg e3, if_neg (by omega)]
set_option maxRecDepth 100000 in
set_option maxHeartbeats 1600000 in
theorem reverse_any (G : Nat) (c : Nat) (l : List UInt8) (w : World) (h : BRow w G l) (hn : l.length ≤ 1048576) :
    Calls Try.prog 76 #[.slice (some ⟨G, 0, none⟩) l.length c] w fun e w' => e = .returned (.tuple #[]) ∧ BRow w' G l.reverse ∧ w.grownBy w' (some G) := by
  generalize hN : l.length = n at *
  have hv : IntKind.i64.wrap ((n : Int) - 1) = (n : Int) - 1 := IntWalk.i64_in _ (by omega)
  go_enter Try.func76, Try.ntmps76
  go_wp2
  go_loopw [2, 3] (fun i j wr => ∃ (k : Nat) (L : List UInt8), 2 * k ≤ n + 1 ∧ i = .int .i64 (k : Int) ∧ j = .int .i64 ((n : Int) - 1 - (k : Int)) ∧ revAt l k L ∧ BRow wr G L ∧ w.grownBy wr (some G)) (fun i _ _ => n - (intOf i).toNat)
  case atStart => exact ⟨0, l, by omega, rfl, by simp, ⟨rfl, fun i hi => by rw [if_neg (by omega)]⟩, h, grown_refl _ _⟩
  case round =>
    obtain ⟨k, L, hk, rfl, rfl, hrv, hB, hgr⟩ := hrel
    replace hrv := Lib.hid hrv
    replace hB := Lib.hid hB
    by_cases hlt : 2 * k + 1 < n
    · have hLn : L.length = n := by rw [hrv.out.1, hN]
      have hkn : k < L.length := by omega
      have hjn : n - 1 - k < L.length := by omega
      have hx := Lib.hid (List.getElem?_eq_getElem hkn)
      have hy := Lib.hid (List.getElem?_eq_getElem hjn)
      have ej : ((n : Int) - 1 - (k : Int)) = ((n - 1 - k : Nat) : Int) := by omega
      have hgj : decide ((k : Int) < ((n - 1 - k : Nat) : Int)) = true := decide_eq_true (by omega)
      have hgj2 : decide (k < n - 1 - k) = true := decide_eq_true (by omega)
      rw [ej]
      have ej2 : ((n - 1 - k : Nat) : Int) - 1 = (n : Int) - 1 - ((k + 1 : Nat) : Int) := by omega
      generalize hJ : n - 1 - k = J at *
      have c0 := hB.out.cell k _ hx.out
      have c1 := hB.out.cell J _ hy.out
      have e0 := hB.out.free k hkn
      have hset := hB.out.set (b := L[J]'hjn) hkn
      have e1 := hset.free J (by simp; omega)
      have d1 := hset.cell J (L[J]'hjn) (by rw [List.getElem?_set_ne (by omega)]; exact hy.out)
      have hset2 := Lib.hid (hset.set (i := J) (b := L[k]'hkn) (by simp; omega))
      have hst := Lib.hid (revAt_step hrv.out (by omega) hx.out (by rw [hN, hJ]; exact hy.out))
      rw [hN, hJ] at hst
      have hg2 := Lib.hid (grown_trans (grown_trans hgr (grown_set (w := wr) (g := G) (o := k) (v := .int .u8 ((L[J]'hjn).toNat : Int)))) (grown_set (o := J) (v := .int .u8 ((L[k]'hkn).toNat : Int))))
      have i0 : (0 : Int) ≤ (k : Int) := Int.natCast_nonneg _
      have i1 : (k : Int) < (n : Int) := by omega
      have k0 : (0 : Int) ≤ (J : Int) := Int.natCast_nonneg _
      have k1 : (J : Int) < (n : Int) := by omega
      have hwv : IntKind.i64.wrap ((J : Int) - 1) = (J : Int) - 1 := IntWalk.i64_in _ (by omega)
      generalize L[J]'hjn = y at *
      generalize L[k]'hkn = x at *
      clear hB hrv hset hx hy ej
      go_wp2
      go_region
      go_wp2
      go_roundw
      case rel => exact ⟨k + 1, _, by omega, by go_num, by go_num, hst.out, ⟨hset2.out.cell, hset2.out.free⟩, ⟨hg2.out.os, hg2.out.tape, hg2.out.output, hg2.out.size, hg2.out.block⟩⟩
      case measure => simp [intOf]; omega
    · have hend := Lib.hid (revAt_end hrv.out (by rw [hN]; omega))
      have hgj : decide ((k : Int) < (n : Int) - 1 - (k : Int)) = false := decide_eq_false (by omega)
      go_wp2
      go_end0
      exact ⟨rfl, by rw [← hend.out]; exact hB.out, hgr⟩
theorem brow_new (w : World) (s : ByteArray) : BRow (Lib.bytesWorld w 5 s) w.heap.size s.data.toList := by
  refine ⟨fun i b hi => ?_, fun i hi => ?_⟩
  · have h1 : i < s.size := by rw [← size_len]; exact (List.getElem?_eq_some_iff.1 hi).1
    rw [Lib.bytesWorld_cell w _ s i h1, List.getD_eq_getElem?_getD, hi]
    rfl
  · rw [size_len] at hi
    have hc : s.size ≤ (Lib.bytesCells w 5 s).size := by
      simp only [Lib.bytesCells, Array.size_append, Array.size_map]
      show s.data.size ≤ _
      omega
    have hb := Lib.bytesWorld_at_new w 5 s
    simp only [World.frozen?, hb, Bool.and_eq_false_iff, decide_eq_false_iff_not]
    left
    omega
theorem bytesWorld_below (w : World) (s : ByteArray) : Below w.heap.size w (Lib.bytesWorld w 5 s) :=
  ⟨rfl, rfl, rfl, by rw [Lib.bytesWorld_size]; omega, fun k hk => Lib.bytesWorld_at_old w _ s k hk⟩
theorem mirFn_any (s : ByteArray) (w : World) (hs : s.size ≤ 1048576) :
    Calls Try.prog 75 #[.string s] w fun e w' => e = .returned (.string (mirB s)) ∧ Below w.heap.size w w' := by
  have hcv := Lib.run_convert_string_bytes (P := Try.prog) w 9 81 5 s Try.underlying9 Try.underlying81 Try.underlying5
  have hrow := brow_new w s
  have hb0 := Lib.hid (bytesWorld_below w s)
  have hrv := Lib.hid (reverse_any w.heap.size (grownCap w s.size 0 5) s.data.toList _ hrow (by rw [size_len]; exact hs))
  rw [size_len] at hrv
  generalize hwb : Lib.bytesWorld w 5 s = wb at *
  generalize grownCap w s.size 0 5 = cp at *
  clear hrow
  go_enter Try.func75, Try.ntmps75
  go_wp2_with fail
  refine hrv.out.mono ?_
  rintro e w2 ⟨rfl, hB, hg⟩
  have hlen : s.data.toList.reverse.length = s.size := by rw [List.length_reverse, size_len]
  have hback := run_convert_bytes_back (P := Try.prog) w2 81 9 5 ⟨w.heap.size, 0, none⟩ cp s.data.toList.reverse Try.underlying81 Try.underlying5 Try.underlying9 (fun j hj => by
    have := hB.cell j _ (List.getElem?_eq_getElem hj)
    rw [← this]
    unfold Addr.add
    split
    · rename_i e; rw [e]
    · simp)
  rw [hlen] at hback
  have hmb : (⟨s.data.toList.reverse.toArray⟩ : ByteArray) = mirB s := rfl
  rw [hmb] at hback
  have hbf := Lib.hid (hb0.out.grown hg (by have := hb0.out.size; omega) (fun q hq => by cases hq; exact Nat.le_refl _))
  go_wp2
  go_ret
  exact ⟨rfl, hbf.out⟩

/-- withRows: what a function makes of each row. -/
def WrOut (l : List ByteArray) (w : World) (e : Ending) (w' : World) : Prop := ∃ A n c, e = .returned (.agg #[.slice A n c]) ∧ n ≤ 1048576 ∧ OStrs w' w.heap.size A n l ∧ Below w.heap.size w w'
set_option maxRecDepth 100000 in
set_option maxHeartbeats 1600000 in
theorem withRows_mir (A : Option Addr) (n c : Nat) (xs : List ByteArray) (w : World) (h : Strs w A n xs) (hn : n ≤ 4) (hs : ∀ x ∈ xs, x.size ≤ 1048576) :
    Calls Try.prog 74 #[.agg #[.slice A n c], .func (.func 75) #[] #[]] w (WrOut (xs.map mirB) w) := by
  have hl := Lib.hid h.1
  replace hs := Lib.hid hs
  have hb0 := Lib.hid (below_a2 w (.cells #[.slice A n c] 27) (.cells #[.slice none 0 0] 27))
  have k0 : ((w.alloc (.cells #[.slice A n c] 27)).alloc (.cells #[.slice none 0 0] 27)).cell? ⟨w.heap.size, 0, none⟩ = some (.slice A n c) := cell_on (cell_new rfl rfl) _
  have k1 : ((w.alloc (.cells #[.slice A n c] 27)).alloc (.cells #[.slice none 0 0] 27)).cell? ⟨w.heap.size + 1, 0, none⟩ = some (.slice none 0 0) := cell_new (by simp) rfl
  have f1 : ((w.alloc (.cells #[.slice A n c] 27)).alloc (.cells #[.slice none 0 0] 27)).frozen? ⟨w.heap.size + 1, 0, none⟩ = false := frozen_new (by simp)
  have hz0' : ((w.alloc (.cells #[.slice A n c] 27)).alloc (.cells #[.slice none 0 0] 27)).heap.size = w.heap.size + 2 := by simp
  obtain ⟨i0, hi, hz0, hz1, hz2⟩ := info_parts Try.infoStr
  go_enter Try.func74, Try.ntmps74
  go_wp2
  generalize ((w.alloc (.cells #[.slice A n c] 27)).alloc (.cells #[.slice none 0 0] 27)) = wa at *
  go_loopw [5, 7, 11] (fun v _ i wr => ∃ k : Nat, k ≤ n ∧ i = .int .i64 k ∧ wr.ownsRow wa.heap.size 9 1 v k (((xs.take k).map mirB).flatMap strC) ∧ Below wa.heap.size wa wr) (fun _ _ i _ => n - (intOf i).toNat)
  case atStart => exact ⟨0, by omega, rfl, World.ownsRow_nil _ _ _ _, Below.refl _ _⟩
  case round =>
    obtain ⟨k, hk, rfl, hrow, hbr⟩ := hrel
    replace hrow := Lib.hid hrow
    by_cases hlt : k < n
    · obtain ⟨b, off, s, rfl, hb, hx, c0⟩ := str_at (h.below (hb0.out.trans (hbr.mono hb0.out.size))) hlt
      have hssz : s.size ≤ 1048576 := hs.out s (List.mem_of_getElem? hx.out)
      have hk0 : (0 : Int) ≤ (k : Int) := Int.natCast_nonneg _
      have hk1 : (k : Int) < (n : Int) := by omega
      have hcall := Lib.hid (mirFn_any s wr hssz)
      have hst := Lib.hid (show ((xs.take (k + 1)).map mirB) = (xs.take k).map mirB ++ [mirB s] by
        obtain ⟨h5, h6⟩ := List.getElem?_eq_some_iff.1 hx.out
        rw [List.take_succ_eq_append_getElem h5, List.map_append, h6]; rfl)
      go_wp2_with fail
      refine hcall.out.mono ?_
      rintro e w2 ⟨rfl, hb2⟩
      have hrow2 := Lib.hid (own_block6 hrow.out (fun g hg => hb2.block g (own_lt6 hrow.out hg)))
      have hbr2 := Lib.hid (hbr.trans (hb2.mono hbr.size))
      have hbz : wa.heap.size ≤ w2.heap.size := hbr2.out.size
      go_wp2_with (at_builtin; refine wpList_append_own _ rfl _ _ 22 rfl wa.heap.size 9 i0 _ 1 16 Try.underlying22 hi hz0 hz1 hz2 rfl (by decide) _ _ _ rfl (hrow2.out.alloc _) ⟨w2.heap.size, 0, none⟩ 1 1 [.string (mirB s)] rfl rfl ?a1 ?b1 ?c1 ?d1 ?e1 ?_)
      case a1 =>
        intro i u hi
        match i, hi with
        | 0, hi => cases hi; exact cell_new (by simp [Addr.add]) rfl
        | i + 1, hi => simp at hi
      case b1 =>
        intro u hu
        simp only [List.mem_cons, List.not_mem_nil, or_false] at hu
        rcases hu with rfl
        rfl
      case c1 => unfold maxLen; omega
      case d1 => omega
      case e1 => simp; omega
      intro v' w4 hown3 hgr3 hnil
      have hgr := grown_trans (grown_below (below_a1 w2 _) _) hgr3
      have hrel4 : Hid (w4.ownsRow wa.heap.size 9 1 v' (k + 1) (((xs.take (k + 1)).map mirB).flatMap strC) ∧ Below wa.heap.size wa w4) := Lib.hid ⟨by
        rw [hst.out, str_snoc, List.map_take, hz0']
        exact hown3, hbr2.out.grown hgr hbz (fun q hq => own_ge6 hrow2.out hq)⟩
      clear hown3 hgr3 hnil hgr
      go_wp2
      go_roundw
      case rel => exact ⟨k + 1, by omega, by go_num, hrel4.out.1, hrel4.out.2⟩
      case measure => simp [intOf]; omega
    · obtain rfl : k = n := by omega
      have hfin : Hid ((xs.take k).map mirB = xs.map mirB) := Lib.hid (by rw [List.take_of_length_le (by rw [hl.out]; exact Nat.le_refl _)])
      have hkl : ((xs.take k).map mirB).length = k := by rw [List.length_map, List.length_take, hl.out]; omega
      obtain ⟨A', c', rfl, hO⟩ := str_row hkl hrow.out
      rw [hfin.out] at hO
      replace hO := Lib.hid hO
      have mr := cell_step k1 hbr
      have mf := (hbr.frozen (p := ⟨w.heap.size + 1, 0, none⟩) (by simp only; omega)).trans f1
      go_wp2
      have rc : (wr.setCell ⟨w.heap.size + 1, 0, none⟩ (.slice A' k c')).cell? ⟨w.heap.size + 1, 0, none⟩ = some (.slice A' k c') := World.cell?_setCell_same _ _ _ mr
      have hbf := Lib.hid ((hb0.out.trans (hbr.mono hb0.out.size)).setCell (p := ⟨w.heap.size + 1, 0, none⟩) (by simp only; omega) (.slice A' k c'))
      have hOf : Hid (OStrs (wr.setCell ⟨w.heap.size + 1, 0, none⟩ (.slice A' k c')) w.heap.size A' k (xs.map mirB)) := Lib.hid ((hO.out.mono (by omega)).block (fun p hp => Below.heap_setCell _ _ _ _ (by have := hO.out.own p hp; simp only; omega)))
      generalize wr.setCell ⟨w.heap.size + 1, 0, none⟩ (.slice A' k c') = wz at *
      refine bodyPost_ret (v := .agg #[.slice A' k c']) (by simp [results, Try.results74, go_sem, rc]) rfl ?_
      exact ⟨A', k, c', rfl, by omega, hOf.out, hbf.out⟩
theorem mi_impl (A : Option Addr) (n c : Nat) (xs : List ByteArray) (w : World) (h : Strs w A n xs) (hn : n ≤ 1048576) (hs : ∀ x ∈ xs, x.size ≤ 1048576) :
    Calls Try.prog 43 #[.agg #[.slice A n c]] w (LyOut (mirR xs) w) := by
  generalize hr : mirR xs = r
  replace hr := Lib.hid hr.symm
  have hl := Lib.hid h.1
  have hb0 := Lib.hid (below_a2 w (.cells #[.slice A n c] 27) (.cells #[.slice none 0 0] 27))
  have hS := h.below hb0.out
  have k0 : ((w.alloc (.cells #[.slice A n c] 27)).alloc (.cells #[.slice none 0 0] 27)).cell? ⟨w.heap.size, 0, none⟩ = some (.slice A n c) := cell_on (cell_new rfl rfl) _
  have k1 : ((w.alloc (.cells #[.slice A n c] 27)).alloc (.cells #[.slice none 0 0] 27)).cell? ⟨w.heap.size + 1, 0, none⟩ = some (.slice none 0 0) := cell_new (by simp) rfl
  have f1 : ((w.alloc (.cells #[.slice A n c] 27)).alloc (.cells #[.slice none 0 0] 27)).frozen? ⟨w.heap.size + 1, 0, none⟩ = false := frozen_new (by simp)
  have hq := Lib.hid (valid_impl A n c xs _ hS hn hs)
  cases h1 : layOk xs with
  | false =>
    have hres : Hid (r = ([], 1)) := Lib.hid (by rw [hr.out]; simp [mirR, h1])
    rw [h1] at hq
    clear h1 hr
    go_enter Try.func43, Try.ntmps43
    go_wp2_with fail
    refine hq.out.mono ?_
    rintro e w1 ⟨rfl, hb1⟩
    have hbw := Lib.hid (hb0.out.step hb1)
    have d1 := cell_step k1 hb1
    have e1 := (hb1.frozen (p := ⟨w.heap.size + 1, 0, none⟩) (by simp)).trans f1
    go_wp2
    have rc : (w1.setCell ⟨w.heap.size + 1, 0, none⟩ (.slice none 0 0)).cell? ⟨w.heap.size + 1, 0, none⟩ = some (.slice none 0 0) := World.cell?_setCell_same _ _ _ d1
    have hbf := Lib.hid (hbw.out.setCell (p := ⟨w.heap.size + 1, 0, none⟩) (by simp only; omega) (.slice none 0 0))
    generalize w1.setCell ⟨w.heap.size + 1, 0, none⟩ (.slice none 0 0) = wz at *
    refine bodyPost_ret (v := .tuple #[.agg #[.slice none 0 0], .int .i64 1]) (by simp [results, Try.results43, go_sem, rc]) rfl ?_
    exact ⟨none, 0, 0, by rw [hres.out], by omega, by rw [hres.out]; exact ⟨rfl, .inl ⟨rfl, rfl⟩⟩, hbf.out⟩
  | true =>
    have hres : Hid (r = (xs.map mirB, 0)) := Lib.hid (by rw [hr.out]; simp [mirR, h1])
    have h4 := (layOk_iff.1 h1).1.2
    rw [hl.out] at h4
    have hw := Lib.hid (fun W (hW : Strs W A n xs) => withRows_mir A n c xs W hW h4 hs)
    rw [h1] at hq
    clear h1 hr
    go_enter Try.func43, Try.ntmps43
    go_wp2_with fail
    refine hq.out.mono ?_
    rintro e w1 ⟨rfl, hb1⟩
    have hbw := Lib.hid (hb0.out.step hb1)
    have d0 := cell_step k0 hb1
    have hz1 := hb1.size
    simp only [World.size_alloc] at hz1
    go_wp2_with fail
    refine (hw.out _ (hS.below hb1)).mono ?_
    rintro e w2 ⟨A', n', c', rfl, hn', hO, hb2⟩
    have hbw2 := Lib.hid (hbw.out.step hb2)
    have d1 := cell_step (cell_step k1 hb1) hb2
    have e1 := (hb2.frozen (p := ⟨w.heap.size + 1, 0, none⟩) (by simp only; omega)).trans ((hb1.frozen (p := ⟨w.heap.size + 1, 0, none⟩) (by simp)).trans f1)
    replace hO := Lib.hid hO
    go_wp2
    have rc : (w2.setCell ⟨w.heap.size + 1, 0, none⟩ (.slice A' n' c')).cell? ⟨w.heap.size + 1, 0, none⟩ = some (.slice A' n' c') := World.cell?_setCell_same _ _ _ d1
    have hbf := Lib.hid (hbw2.out.setCell (p := ⟨w.heap.size + 1, 0, none⟩) (by simp only; omega) (.slice A' n' c'))
    have hOf : Hid (OStrs (w2.setCell ⟨w.heap.size + 1, 0, none⟩ (.slice A' n' c')) w.heap.size A' n' (xs.map mirB)) := Lib.hid ((hO.out.mono (by omega)).block (fun p hp => Below.heap_setCell _ _ _ _ (by have := hO.out.own p hp; simp only; omega)))
    generalize w2.setCell ⟨w.heap.size + 1, 0, none⟩ (.slice A' n' c') = wz at *
    refine bodyPost_ret (v := .tuple #[.agg #[.slice A' n' c'], .int .i64 0]) (by simp [results, Try.results43, go_sem, rc]) rfl ?_
    exact ⟨A', n', c', by rw [hres.out], hn', by rw [hres.out]; exact hOf.out, hbf.out⟩
end Go.Proofs.Yticggclpaalhgaa
