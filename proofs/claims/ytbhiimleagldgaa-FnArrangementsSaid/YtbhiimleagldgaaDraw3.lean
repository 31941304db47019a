/- Baskets that are drawn. -/
import Derived.Test.YtbhiimleagldgaaSrc
import Derived.Test.YtbhiimleagldgaaDrawn
import Derived.Test.YtbhiimleagldgaaBars0
namespace Go.Proofs.Ytbhiimleagldgaa
open Go.RowKit
set_option linter.unusedVariables false
set_option linter.unusedSimpArgs false

/-- A block of its own that holds a basket. -/
def BRow (w : World) (N : Nat) (b : BasketD) : Prop := w.rowIs N 25 5 (fun j => (b.cells[j]?).getD undef)
section
variable {w w' : World} {N : Nat} {b : BasketD}
theorem BRow.lt (h : BRow w N b) : N < w.heap.size := World.rowIs.lt h
theorem BRow.block (h : BRow w N b) (e : w'.heap[N]? = w.heap[N]?) : BRow w' N b := World.rowIs.of_block h e
theorem BRow.grown {row : Option Nat} (h : BRow w N b) (hg : w.grownBy w' row) (hne : row ≠ some N) : BRow w' N b := h.block (hg.block _ h.lt (fun e => hne e.symm))
theorem BRow.below (h : BRow w N b) (hb : Below w.heap.size w w') : BRow w' N b := h.block (hb.block _ h.lt)
theorem BRow.frozen (h : BRow w N b) (i : Nat) : w.frozen? ⟨N, i, none⟩ = false := World.rowIs.frozen h i
theorem BRow.cells (h : BRow w N b) : w.cell? ⟨N, 0, none⟩ = some (.int .i64 b.bars) ∧ w.cell? ⟨N, 1, none⟩ = some (.int .i64 b.rise) ∧ w.cell? ⟨N, 2, none⟩ = some (.int .i64 b.fall) ∧ w.cell? ⟨N, 3, none⟩ = some (.int .i64 b.clear) ∧ w.cell? ⟨N, 4, none⟩ = some (.int .i64 b.near) :=
  ⟨World.rowIs.cell h (i := 0) (by omega), World.rowIs.cell h (i := 1) (by omega), World.rowIs.cell h (i := 2) (by omega), World.rowIs.cell h (i := 3) (by omega), World.rowIs.cell h (i := 4) (by omega)⟩
theorem BRow.new (w : World) (a0 a1 a2 a3 a4 : Int) : BRow (w.alloc (.cells #[.int .i64 a0, .int .i64 a1, .int .i64 a2, .int .i64 a3, .int .i64 a4] 25)) w.heap.size ⟨a0, a1, a2, a3, a4⟩ := by
  refine ⟨_, heap_alloc_new _ _, rfl, fun i hi => ?_⟩
  match i, hi with
  | 0, _ => rfl
  | 1, _ => rfl
  | 2, _ => rfl
  | 3, _ => rfl
  | 4, _ => rfl
theorem BRow.put (h : BRow w N b) (i : Nat) (v : Int) (b' : BasketD) (hb : ∀ j, j < 5 → (if j = i then (Value.int .i64 v) else (b.cells[j]?).getD undef) = (b'.cells[j]?).getD undef) : BRow (w.setCell ⟨N, i, none⟩ (.int .i64 v)) N b' := by
  have h1 := World.rowIs.set h i (Value.int .i64 v)
  exact h1.congr fun j hj => hb j hj
theorem BRow.put0 (h : BRow w N b) (v : Int) : BRow (w.setCell ⟨N, 0, none⟩ (.int .i64 v)) N ⟨v, b.rise, b.fall, b.clear, b.near⟩ := h.put 0 v _ fun j hj => by
  match j, hj with
  | 0, _ => rfl
  | 1, _ => rfl
  | 2, _ => rfl
  | 3, _ => rfl
  | 4, _ => rfl
theorem BRow.put1 (h : BRow w N b) (v : Int) : BRow (w.setCell ⟨N, 1, none⟩ (.int .i64 v)) N ⟨b.bars, v, b.fall, b.clear, b.near⟩ := h.put 1 v _ fun j hj => by
  match j, hj with
  | 0, _ => rfl
  | 1, _ => rfl
  | 2, _ => rfl
  | 3, _ => rfl
  | 4, _ => rfl
theorem BRow.put2 (h : BRow w N b) (v : Int) : BRow (w.setCell ⟨N, 2, none⟩ (.int .i64 v)) N ⟨b.bars, b.rise, v, b.clear, b.near⟩ := h.put 2 v _ fun j hj => by
  match j, hj with
  | 0, _ => rfl
  | 1, _ => rfl
  | 2, _ => rfl
  | 3, _ => rfl
  | 4, _ => rfl
theorem BRow.put3 (h : BRow w N b) (v : Int) : BRow (w.setCell ⟨N, 3, none⟩ (.int .i64 v)) N ⟨b.bars, b.rise, b.fall, v, b.near⟩ := h.put 3 v _ fun j hj => by
  match j, hj with
  | 0, _ => rfl
  | 1, _ => rfl
  | 2, _ => rfl
  | 3, _ => rfl
  | 4, _ => rfl
theorem BRow.put4 (h : BRow w N b) (v : Int) : BRow (w.setCell ⟨N, 4, none⟩ (.int .i64 v)) N ⟨b.bars, b.rise, b.fall, b.clear, v⟩ := h.put 4 v _ fun j hj => by
  match j, hj with
  | 0, _ => rfl
  | 1, _ => rfl
  | 2, _ => rfl
  | 3, _ => rfl
  | 4, _ => rfl
/-- All five are stored. -/
theorem BRow.put5 (h : BRow w N b) (a0 a1 a2 a3 a4 : Int) : BRow (((((w.setCell ⟨N, 0, none⟩ (.int .i64 a0)).setCell ⟨N, 1, none⟩ (.int .i64 a1)).setCell ⟨N, 2, none⟩ (.int .i64 a2)).setCell ⟨N, 3, none⟩ (.int .i64 a3)).setCell ⟨N, 4, none⟩ (.int .i64 a4)) N ⟨a0, a1, a2, a3, a4⟩ :=
  ((((h.put0 a0).put1 a1).put2 a2).put3 a3).put4 a4
theorem grown_put5 (w : World) (N : Nat) (a0 a1 a2 a3 a4 : Value) : w.grownBy (((((w.setCell ⟨N, 0, none⟩ a0).setCell ⟨N, 1, none⟩ a1).setCell ⟨N, 2, none⟩ a2).setCell ⟨N, 3, none⟩ a3).setCell ⟨N, 4, none⟩ a4) (some N) :=
  grown_put [a0, a1, a2, a3, a4] w 0
end
def drawnOk (b : BasketD) : Prop := (2 ≤ b.bars ∧ b.bars ≤ 11) ∧ (1 ≤ b.rise ∧ b.rise ≤ 6) ∧ (1 ≤ b.fall ∧ b.fall ≤ 6) ∧ (1 ≤ b.clear ∧ b.clear ≤ 4) ∧ 0 ≤ b.near ∧ b.near ≤ 5

set_option maxRecDepth 100000 in
set_option maxHeartbeats 3200000 in
theorem l03draw_any (r t : Nat) (w : World) (h : SrcAt w r t) (ht : t ≤ 1000000) :
    Calls Try.prog 20 #[.pointer (some ⟨r, 0, none⟩)] w fun e w' => ∃ b : BasketD, e = .returned (.agg #[.int .i64 b.bars, .int .i64 b.rise, .int .i64 b.fall, .int .i64 b.clear, .int .i64 b.near]) ∧ drawnOk b ∧ SrcAt w' r (t + 10) ∧ Drawn r w.heap.size w w' := by
  have hrl := h.lt
  have hR0 := BRow.new w 0 0 0 0 0
  have hb0 := below_a1 w (.cells #[.int .i64 0, .int .i64 0, .int .i64 0, .int .i64 0, .int .i64 0] 25)
  obtain ⟨w0, hw0⟩ : ∃ W, w.alloc (.cells #[.int .i64 0, .int .i64 0, .int .i64 0, .int .i64 0, .int .i64 0] 25) = W := ⟨_, rfl⟩
  rw [hw0] at hR0 hb0
  have hs0 := h.below hb0
  have hz0 : w.heap.size < w0.heap.size := hR0.lt
  have hp1 := Lib.hid (pick_any r t 10 w0 hs0 (by omega) (by omega))
  go_enter Try.func20, Try.ntmps20
  go_wp2_with fail
  clear hw0
  generalize hR : w.heap.size = R at *
  refine hp1.out.mono ?_
  rintro e w1 ⟨x1, rfl, l1, u1, _, hs1, hg1⟩
  replace u1 := u1 (by omega)
  have m1 : IntKind.i64.wrap (2 + x1) = 2 + x1 := IntWalk.i64_in _ (by omega)
  have hR1 := hR0.grown hg1 (fun e => by cases e; omega)
  have hz1 := hR1.lt
  have d1 : Drawn r R w w1 := (Drawn.below (Drawn.refl r R w) (hR ▸ hb0) (by omega)).pick hg1 (by omega)
  have hB1 := BRow.new w1 (2 + x1) 0 0 0 0
  have hb1 := below_a1 w1 (.cells #[.int .i64 (2 + x1), .int .i64 0, .int .i64 0, .int .i64 0, .int .i64 0] 25)
  go_wp2_with fail
  generalize w1.alloc (.cells #[.int .i64 (2 + x1), .int .i64 0, .int .i64 0, .int .i64 0, .int .i64 0] 25) = v1 at *
  have hR1' := hR1.below hb1
  have hs1' := hs1.below hb1
  have d1' := d1.below hb1 (by omega)
  have hQr : R < w1.heap.size := by omega
  generalize w1.heap.size = Q at *
  have hp2 := pick_any r (t + 2) 6 v1 hs1' (by omega) (by omega)
  refine hp2.mono ?_
  rintro e w2 ⟨x2, rfl, l2, u2, _, hs2, hg2⟩
  clear hp2
  replace u2 := u2 (by omega)
  have m2 : IntKind.i64.wrap (1 + x2) = 1 + x2 := IntWalk.i64_in _ (by omega)
  have hB2 := hB1.grown hg2 (fun e => by cases e; omega)
  have hR2 := hR1'.grown hg2 (fun e => by cases e; omega)
  have hz2 := hR2.lt
  have hy2 := hB2.lt
  have d2 := d1'.pick hg2 (by have := hR1'.lt; omega)
  obtain ⟨i0, i1, i2, i3, i4⟩ := hB2.cells
  have j0 := hB2.frozen 1
  have hg2' : w2.grownBy (w2.setCell ⟨Q, 1, none⟩ (.int .i64 (1 + x2))) (some Q) := grown_set
  have hB2' := hB2.put1 (1 + x2)
  have hR2' := hR2.grown hg2' (fun e => by cases e; omega)
  have hs2' := hs2.grown hg2' (by omega)
  have d2' := d2.young hg2' (by omega) (by omega)
  go_wp2_with fail
  generalize w2.setCell ⟨Q, 1, none⟩ (.int .i64 (1 + x2)) = v2 at *
  clear i0 i1 i2 i3 i4 j0
  have hp3 := pick_any r (t + 2 + 2) 6 v2 hs2' (by omega) (by omega)
  refine hp3.mono ?_
  rintro e w3 ⟨x3, rfl, l3, u3, _, hs3, hg3⟩
  clear hp3
  replace u3 := u3 (by omega)
  have m3 : IntKind.i64.wrap (1 + x3) = 1 + x3 := IntWalk.i64_in _ (by omega)
  have hB3 := hB2'.grown hg3 (fun e => by cases e; omega)
  have hR3 := hR2'.grown hg3 (fun e => by cases e; omega)
  have hz3 := hR3.lt
  have hy3 := hB3.lt
  have d3 := d2'.pick hg3 (by have := hR2'.lt; omega)
  obtain ⟨i0, i1, i2, i3, i4⟩ := hB3.cells
  have j0 := hB3.frozen 2
  have hg3' : w3.grownBy (w3.setCell ⟨Q, 2, none⟩ (.int .i64 (1 + x3))) (some Q) := grown_set
  have hB3' := hB3.put2 (1 + x3)
  have hR3' := hR3.grown hg3' (fun e => by cases e; omega)
  have hs3' := hs3.grown hg3' (by omega)
  have d3' := d3.young hg3' (by omega) (by omega)
  go_wp2_with fail
  generalize w3.setCell ⟨Q, 2, none⟩ (.int .i64 (1 + x3)) = v3 at *
  clear i0 i1 i2 i3 i4 j0
  have hp4 := pick_any r (t + 2 + 2 + 2) 4 v3 hs3' (by omega) (by omega)
  refine hp4.mono ?_
  rintro e w4 ⟨x4, rfl, l4, u4, _, hs4, hg4⟩
  clear hp4
  replace u4 := u4 (by omega)
  have m4 : IntKind.i64.wrap (1 + x4) = 1 + x4 := IntWalk.i64_in _ (by omega)
  have hB4 := hB3'.grown hg4 (fun e => by cases e; omega)
  have hR4 := hR3'.grown hg4 (fun e => by cases e; omega)
  have hz4 := hR4.lt
  have hy4 := hB4.lt
  have d4 := d3'.pick hg4 (by have := hR3'.lt; omega)
  obtain ⟨i0, i1, i2, i3, i4⟩ := hB4.cells
  have j0 := hB4.frozen 3
  have hg4' : w4.grownBy (w4.setCell ⟨Q, 3, none⟩ (.int .i64 (1 + x4))) (some Q) := grown_set
  have hB4' := hB4.put3 (1 + x4)
  have hR4' := hR4.grown hg4' (fun e => by cases e; omega)
  have hs4' := hs4.grown hg4' (by omega)
  have d4' := d4.young hg4' (by omega) (by omega)
  go_wp2_with fail
  generalize w4.setCell ⟨Q, 3, none⟩ (.int .i64 (1 + x4)) = v4 at *
  clear i0 i1 i2 i3 i4 j0
  have hp5 := pick_any r (t + 2 + 2 + 2 + 2) 6 v4 hs4' (by omega) (by omega)
  refine hp5.mono ?_
  rintro e w5 ⟨x5, rfl, l5, u5, _, hs5, hg5⟩
  clear hp5
  replace u5 := u5 (by omega)
  have hB5 := hB4'.grown hg5 (fun e => by cases e; omega)
  have hR5 := hR4'.grown hg5 (fun e => by cases e; omega)
  have hz5 := hR5.lt
  have hy5 := hB5.lt
  have d5 := d4'.pick hg5 (by have := hR4'.lt; omega)
  obtain ⟨i0, i1, i2, i3, i4⟩ := hB5.cells
  have j0 := hB5.frozen 4
  have hg5' : w5.grownBy (w5.setCell ⟨Q, 4, none⟩ (.int .i64 (x5))) (some Q) := grown_set
  have hB5' := hB5.put4 (x5)
  have hR5' := hR5.grown hg5' (fun e => by cases e; omega)
  have hs5' := hs5.grown hg5' (by omega)
  have d5' := d5.young hg5' (by omega) (by omega)
  obtain ⟨c0, c1, c2, c3, c4⟩ := hB5'.cells
  obtain ⟨e0, e1, e2, e3, e4⟩ := hR5'.cells
  have f0 := hR5'.frozen 0
  have f1 := hR5'.frozen 1
  have f2 := hR5'.frozen 2
  have f3 := hR5'.frozen 3
  have f4 := hR5'.frozen 4
  have hgf := grown_put5 (w5.setCell ⟨Q, 4, none⟩ (.int .i64 x5)) R (.int .i64 (2 + x1)) (.int .i64 (1 + x2)) (.int .i64 (1 + x3)) (.int .i64 (1 + x4)) (.int .i64 x5)
  have hRf := hR5'.put5 (2 + x1) (1 + x2) (1 + x3) (1 + x4) x5
  have dR := hR5'.lt
  go_wp2
  obtain ⟨z0, z1, z2, z3, z4⟩ := hRf.cells
  have hsf := hs5'.grown hgf (by omega)
  have hdf := d5'.young hgf (by omega) (Nat.le_refl _)
  generalize (((((w5.setCell ⟨Q, 4, none⟩ (.int .i64 x5)).setCell ⟨R, 0, none⟩ (.int .i64 (2 + x1))).setCell ⟨R, 1, none⟩ (.int .i64 (1 + x2))).setCell ⟨R, 2, none⟩ (.int .i64 (1 + x3))).setCell ⟨R, 3, none⟩ (.int .i64 (1 + x4))).setCell ⟨R, 4, none⟩ (.int .i64 x5) = wf at *
  refine bodyPost_ret (v := .agg #[.int .i64 (2 + x1), .int .i64 (1 + x2), .int .i64 (1 + x3), .int .i64 (1 + x4), .int .i64 x5]) (by simp [results, Try.results20, go_sem, z0, z1, z2, z3, z4]) rfl ?_
  subst hR
  exact ⟨⟨2 + x1, 1 + x2, 1 + x3, 1 + x4, x5⟩, rfl, ⟨⟨by simp only; omega, by simp only; omega⟩, ⟨by simp only; omega, by simp only; omega⟩, ⟨by simp only; omega, by simp only; omega⟩, ⟨by simp only; omega, by simp only; omega⟩, by simp only; omega, by simp only; omega⟩, hsf.mono (by omega), hdf⟩

set_option maxRecDepth 100000 in
set_option maxHeartbeats 3200000 in
theorem a2basket_any (A : Option Addr) (n c : Nat) (xs : List Int) (w : World) (hn : n ≤ maxLen) (h : Bytes w A n xs) (hg : ∀ x ∈ xs, byteGood x) :
    Calls Try.prog 6 #[.slice A n c] w fun e w' => ∃ b : BasketD, e = .returned (.agg #[.int .i64 b.bars, .int .i64 b.rise, .int .i64 b.fall, .int .i64 b.clear, .int .i64 b.near]) ∧ basketOk b = true ∧ 7 ≤ b.bars ∧ Below w.heap.size w w' := by
  have hb0 := below_a1 w (.cells #[.int .i64 0, .int .i64 0, .int .i64 0, .int .i64 0, .int .i64 0] 25)
  have hR0 := BRow.new w 0 0 0 0 0
  have hfr := Lib.hid (from_any A n c xs _ hn (h.below hb0) hg)
  go_enter Try.func6, Try.ntmps6
  go_wp2_with fail
  generalize w.alloc (.cells #[.int .i64 0, .int .i64 0, .int .i64 0, .int .i64 0, .int .i64 0] 25) = w0 at *
  generalize hR : w.heap.size = R at *
  refine hfr.out.mono ?_
  rintro e w1 ⟨rfl, hs1, hb1⟩
  have hR1 := hR0.below hb1
  have hz0 := hR0.lt
  have hd1 : Below R w w1 := hb0.trans (hb1.mono (by omega))
  have hld := Lib.hid (l03draw_any w0.heap.size 0 w1 hs1 (by omega))
  go_wp2_with fail
  refine hld.out.mono ?_
  rintro e w2 ⟨b, rfl, hb, hs2, hdr⟩
  have hR2 := hR1.block (hdr.block R hR1.lt (by omega))
  have hd2 : Below R w w2 := hd1.trans ⟨hdr.os, hdr.tape, hdr.output, hdr.size, fun k hk => hdr.block k (by have := hR1.lt; omega) (by omega)⟩
  obtain ⟨⟨b1, b2⟩, ⟨b3, b4⟩, ⟨b5, b6⟩, ⟨b7, b8⟩, b9, b10⟩ := hb
  have m1 : IntKind.i64.wrap (b.bars + 5) = b.bars + 5 := IntWalk.i64_in _ (by omega)
  have hz2 := hR2.lt
  obtain ⟨g0, g1, g2, g3, g4⟩ := hR2.cells
  have k0 := hR2.frozen 0
  have k1 := hR2.frozen 1
  have k2 := hR2.frozen 2
  have k3 := hR2.frozen 3
  have k4 := hR2.frozen 4
  have hne : ¬ R = w2.heap.size := by omega
  have hne2 : ¬ w2.heap.size = R := by omega
  have hgf := grown_put5 w2 R (.int .i64 (b.bars + 5)) (.int .i64 b.rise) (.int .i64 b.fall) (.int .i64 b.clear) (.int .i64 b.near)
  have hRp := hR2.put5 (b.bars + 5) b.rise b.fall b.clear b.near
  have hRf := hRp.below (below_a1 _ (.cells #[.int .i64 (b.bars + 5), .int .i64 b.rise, .int .i64 b.fall, .int .i64 b.clear, .int .i64 b.near] 25))
  have hdf : Below R w _ := (hd2.grown hgf (by omega) (fun j hj => by cases hj; omega)).alloc (Nat.le_of_lt hRp.lt) (.cells #[.int .i64 (b.bars + 5), .int .i64 b.rise, .int .i64 b.fall, .int .i64 b.clear, .int .i64 b.near] 25)
  go_wp2
  obtain ⟨z0, z1, z2, z3, z4⟩ := hRf.cells
  generalize (((((w2.setCell ⟨R, 0, none⟩ (.int .i64 (b.bars + 5))).setCell ⟨R, 1, none⟩ (.int .i64 b.rise)).setCell ⟨R, 2, none⟩ (.int .i64 b.fall)).setCell ⟨R, 3, none⟩ (.int .i64 b.clear)).setCell ⟨R, 4, none⟩ (.int .i64 b.near)).alloc (.cells #[.int .i64 (b.bars + 5), .int .i64 b.rise, .int .i64 b.fall, .int .i64 b.clear, .int .i64 b.near] 25) = wf at *
  refine bodyPost_ret (v := .agg #[.int .i64 (b.bars + 5), .int .i64 b.rise, .int .i64 b.fall, .int .i64 b.clear, .int .i64 b.near]) (by simp [results, Try.results6, go_sem, z0, z1, z2, z3, z4]) rfl ?_
  subst hR
  exact ⟨⟨b.bars + 5, b.rise, b.fall, b.clear, b.near⟩, rfl, basketOk_iff.2 ⟨⟨by simp only; omega, by simp only; omega⟩, ⟨by simp only; omega, by simp only; omega⟩, ⟨by simp only; omega, by simp only; omega⟩, ⟨by simp only; omega, by simp only; omega⟩, by simp only; omega, by simp only; omega⟩, by simp only; omega, hdf⟩
end Go.Proofs.Ytbhiimleagldgaa
