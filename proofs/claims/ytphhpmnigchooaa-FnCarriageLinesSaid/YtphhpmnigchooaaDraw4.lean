/- Carriages that are drawn. -/
import Derived.Test.YtphhpmnigchooaaDrawn
import Derived.Test.YtphhpmnigchooaaSrcT
import Derived.Test.YtphhpmnigchooaaCarriageD
import Derived.Deep.RegionHeld3
namespace Go.Proofs.Ytphhpmnigchooaa
open Go.RowKit
set_option linter.unusedVariables false
set_option linter.unusedSimpArgs false

/-- A block of its own that holds a carriage. -/
def CRow (w : World) (N : Nat) (b : CarriageD) : Prop := w.rowIs N 25 3 (fun j => (b.cells[j]?).getD undef)
section
variable {w w' : World} {N : Nat} {b : CarriageD}
theorem CRow.lt (h : CRow w N b) : N < w.heap.size := World.rowIs.lt h
theorem CRow.block (h : CRow w N b) (e : w'.heap[N]? = w.heap[N]?) : CRow w' N b := World.rowIs.of_block h e
theorem CRow.grown {row : Option Nat} (h : CRow w N b) (hg : w.grownBy w' row) (hne : row ≠ some N) : CRow w' N b := h.block (hg.block _ h.lt (fun e => hne e.symm))
theorem CRow.below (h : CRow w N b) (hb : Below w.heap.size w w') : CRow w' N b := h.block (hb.block _ h.lt)
theorem CRow.frozen (h : CRow w N b) (i : Nat) : w.frozen? ⟨N, i, none⟩ = false := World.rowIs.frozen h i
theorem CRow.cells (h : CRow w N b) : w.cell? ⟨N, 0, none⟩ = some (.int .i64 b.left) ∧ w.cell? ⟨N, 1, none⟩ = some (.int .i64 b.right) ∧ w.cell? ⟨N, 2, none⟩ = some (.int .i64 b.bell) :=
  ⟨World.rowIs.cell h (i := 0) (by omega), World.rowIs.cell h (i := 1) (by omega), World.rowIs.cell h (i := 2) (by omega)⟩
theorem CRow.new (w : World) (a0 a1 a2 : Int) : CRow (w.alloc (.cells #[.int .i64 a0, .int .i64 a1, .int .i64 a2] 25)) w.heap.size ⟨a0, a1, a2⟩ := by
  refine ⟨_, heap_alloc_new _ _, rfl, fun i hi => ?_⟩
  match i, hi with
  | 0, _ => rfl
  | 1, _ => rfl
  | 2, _ => rfl
theorem CRow.put (h : CRow w N b) (i : Nat) (v : Int) (b' : CarriageD) (hb : ∀ j, j < 3 → (if j = i then (Value.int .i64 v) else (b.cells[j]?).getD undef) = (b'.cells[j]?).getD undef) : CRow (w.setCell ⟨N, i, none⟩ (.int .i64 v)) N b' := by
  have h1 := World.rowIs.set h i (Value.int .i64 v)
  exact h1.congr fun j hj => hb j hj
theorem CRow.put0 (h : CRow w N b) (v : Int) : CRow (w.setCell ⟨N, 0, none⟩ (.int .i64 v)) N ⟨v, b.right, b.bell⟩ := h.put 0 v _ fun j hj => by
  match j, hj with
  | 0, _ => rfl
  | 1, _ => rfl
  | 2, _ => rfl
theorem CRow.put1 (h : CRow w N b) (v : Int) : CRow (w.setCell ⟨N, 1, none⟩ (.int .i64 v)) N ⟨b.left, v, b.bell⟩ := h.put 1 v _ fun j hj => by
  match j, hj with
  | 0, _ => rfl
  | 1, _ => rfl
  | 2, _ => rfl
theorem CRow.put2 (h : CRow w N b) (v : Int) : CRow (w.setCell ⟨N, 2, none⟩ (.int .i64 v)) N ⟨b.left, b.right, v⟩ := h.put 2 v _ fun j hj => by
  match j, hj with
  | 0, _ => rfl
  | 1, _ => rfl
  | 2, _ => rfl
/-- All three are stored. -/
theorem CRow.put3 (h : CRow w N b) (a0 a1 a2 : Int) : CRow (((w.setCell ⟨N, 0, none⟩ (.int .i64 a0)).setCell ⟨N, 1, none⟩ (.int .i64 a1)).setCell ⟨N, 2, none⟩ (.int .i64 a2)) N ⟨a0, a1, a2⟩ := ((h.put0 a0).put1 a1).put2 a2
theorem grown_put3 (w : World) (N : Nat) (a0 a1 a2 : Value) : w.grownBy (((w.setCell ⟨N, 0, none⟩ a0).setCell ⟨N, 1, none⟩ a1).setCell ⟨N, 2, none⟩ a2) (some N) := grown_put [a0, a1, a2] w 0
end
theorem wf64 {x : Int} (h : -9223372036854775808 ≤ x ∧ x ≤ 9223372036854775807) : (Lit.int .i64 x).wf = true := by
  simp [Lit.wf, IntKind.min, IntKind.max, IntKind.signed, IntKind.bits]
  omega

set_option maxRecDepth 100000 in
set_option maxHeartbeats 3200000 in
theorem l04draw_any (r t : Nat) (w : World) (h : SrcAt w r t) (ht : t ≤ 1000000) :
    Calls Try.prog 27 #[.pointer (some ⟨r, 0, none⟩)] w fun e w' => ∃ b : CarriageD, e = .returned (.agg #[.int .i64 b.left, .int .i64 b.right, .int .i64 b.bell]) ∧ b.good ∧ SrcAt w' r (t + 10) ∧ Drawn r w.heap.size w w' := by
  have hrl := h.lt
  have hR0 := CRow.new w 0 0 0
  have hb0 := below_a1 w (.cells #[.int .i64 0, .int .i64 0, .int .i64 0] 25)
  obtain ⟨w0, hw0⟩ : ∃ W, w.alloc (.cells #[.int .i64 0, .int .i64 0, .int .i64 0] 25) = W := ⟨_, rfl⟩
  rw [hw0] at hR0 hb0
  have hs0 := h.below hb0
  have hz0 : w.heap.size < w0.heap.size := hR0.lt
  have hp1 := Lib.hid (pick_any r t 20 w0 hs0 (by omega) (by omega))
  go_enter Try.func27, Try.ntmps27
  go_wp2_with fail
  clear hw0
  generalize hR : w.heap.size = R at *
  refine hp1.out.mono ?_
  rintro e w1 ⟨x1, rfl, l1, u1, _, hs1, hg1⟩
  replace u1 := u1 (by omega)
  have hR1 := hR0.grown hg1 (fun e => by cases e; omega)
  have hz1 := hR1.lt
  have d1 : Drawn r R w w1 := (Drawn.below (Drawn.refl r R w) (hR ▸ hb0) (by omega)).pick hg1 (by omega)
  have hB1 := CRow.new w1 x1 0 0
  have hb1 := below_a1 w1 (.cells #[.int .i64 x1, .int .i64 0, .int .i64 0] 25)
  go_wp2_with fail
  generalize w1.alloc (.cells #[.int .i64 x1, .int .i64 0, .int .i64 0] 25) = v1 at *
  have hR1' := hR1.below hb1
  have hs1' := hs1.below hb1
  have d1' := d1.below hb1 (by omega)
  have hQr : R < w1.heap.size := by omega
  generalize w1.heap.size = Q at *
  have m2 : IntKind.i64.wrap (x1 + 20) = x1 + 20 := IntWalk.i64_in _ (by omega)
  obtain ⟨i0, i1, i2⟩ := (hB1 : CRow v1 Q ⟨x1, 0, 0⟩).cells
  refine wp_region_held_drew (S := fun w' => w'.cell? ⟨Q, 0, none⟩ = some (.int .i64 x1)) (by kernel_rfl) ?_ (fun hHeld => ?_)
  · exact i0
  refine wpAnyH_take (i := 0) (v := ?va0) rfl (by kernel_rfl) (by kernel_rfl) (by kernel_rfl) (fun _ _ _ h => h) (Or.inl ⟨rfl, ?ya0⟩) (by assumption) ?_
  case ya0 => (intro w hSw; (try dsimp only at hSw); go_simp; first | done | with_reducible rfl)
  simp only [List.getElem_toArray, List.getElem_cons_succ, List.getElem_cons_zero, Act.put, List.setIfInBounds_toArray, List.set_cons_zero, List.set_cons_succ]
  refine wpAnyH_take (i := 1) (v := ?va1) rfl (by kernel_rfl) (by kernel_rfl) (by kernel_rfl) (fun _ _ _ h => h) (Or.inl ⟨rfl, ?ya1⟩) (by assumption) ?_
  case ya1 => (intro w hSw; (try dsimp only at hSw); go_simp; first | done | with_reducible rfl)
  simp only [List.getElem_toArray, List.getElem_cons_succ, List.getElem_cons_zero, Act.put, List.setIfInBounds_toArray, List.set_cons_zero, List.set_cons_succ]
  refine wpAnyH_take (i := 2) (v := ?va2) rfl (by kernel_rfl) (by kernel_rfl) (by kernel_rfl) (fun _ _ _ h => h) (Or.inl ⟨rfl, ?ya2⟩) (by assumption) ?_
  case ya2 => (intro w hSw; (try dsimp only at hSw); go_simp; first | done | with_reducible rfl)
  simp only [List.getElem_toArray, List.getElem_cons_succ, List.getElem_cons_zero, Act.put, List.setIfInBounds_toArray, List.set_cons_zero, List.set_cons_succ]
  refine wpAnyH_take (i := 3) (v := ?va3) rfl (by kernel_rfl) (by kernel_rfl) (by kernel_rfl) (fun _ _ _ h => h) (Or.inl ⟨rfl, ?ya3⟩) (by assumption) ?_
  case ya3 => (intro w hSw; (try dsimp only at hSw); go_simp; first | done | with_reducible rfl)
  simp only [List.getElem_toArray, List.getElem_cons_succ, List.getElem_cons_zero, Act.put, List.setIfInBounds_toArray, List.set_cons_zero, List.set_cons_succ]
  refine wpAnyH_ready (rs := [4]) (by kernel_rfl) (by simp) ?_
  refine AllReadyH.cons rfl (fun K hK => ?_) AllReadyH.nil
  go_simp
  refine (pick_any r (t + 2) 20 v1.drew (show SrcAt v1.drew r (t + 2) from hs1') (by omega) (by omega)).mono ?_
  rintro e w2 ⟨x2, rfl, l2, u2, _, hs2, hg2⟩
  replace hg2 := grown_of_drew hg2
  replace u2 := u2 (by omega)
  have m3 : IntKind.i64.wrap (x1 + 20 + x2) = x1 + 20 + x2 := IntWalk.i64_in _ (by omega)
  have hB2 : CRow w2 Q ⟨x1, 0, 0⟩ := CRow.grown (w := v1) hB1 hg2 (fun e => by cases e; omega)
  have hR2 : CRow w2 R ⟨0, 0, 0⟩ := CRow.grown (w := v1) hR1' hg2 (fun e => by cases e; omega)
  have d2 : Drawn r R w w2 := d1'.pick hg2 (by have := hR1'.lt; omega)
  obtain ⟨j0, j1, j2⟩ := hB2.cells
  have j3 := hB2.frozen 1
  have hz2 := hR2.lt
  have hy2 := hB2.lt
  go_wp2_with fail
  refine hK.out _ _ ?_ (fun hHeld => ?_)
  · exact j0
  clear hK K
  try simp only [List.getElem_toArray, List.getElem_cons_succ, List.getElem_cons_zero, Act.put, List.setIfInBounds_toArray, List.set_cons_zero, List.set_cons_succ]
  refine wpAnyH_take (i := 5) (v := ?va5) rfl (by kernel_rfl) (by kernel_rfl) (by kernel_rfl) (fun _ _ _ h => h) (Or.inl ⟨rfl, ?ya5⟩) (by assumption) ?_
  case ya5 => (intro w hSw; (try dsimp only at hSw); go_simp; first | done | with_reducible rfl)
  simp only [List.getElem_toArray, List.getElem_cons_succ, List.getElem_cons_zero, Act.put, List.setIfInBounds_toArray, List.set_cons_zero, List.set_cons_succ]
  refine wpAnyH_take (i := 6) (v := ?va6) rfl (by kernel_rfl) (by kernel_rfl) (by kernel_rfl) (fun _ _ _ h => h) (Or.inl ⟨rfl, ?ya6⟩) (by assumption) ?_
  case ya6 => (intro w hSw; (try dsimp only at hSw); go_simp; first | done | with_reducible rfl)
  simp only [List.getElem_toArray, List.getElem_cons_succ, List.getElem_cons_zero, Act.put, List.setIfInBounds_toArray, List.set_cons_zero, List.set_cons_succ]
  refine wpAnyH_ready (rs := [7]) (by kernel_rfl) (by simp) ?_
  refine AllReadyH.cons rfl (fun K hK => ?_) AllReadyH.nil
  go_simp
  have hg2' : w2.grownBy (w2.setCell ⟨Q, 1, none⟩ (.int .i64 (x1 + 20 + x2))) (some Q) := grown_set
  have hB2' := hB2.put1 (x1 + 20 + x2)
  have hR2' := hR2.grown hg2' (fun e => by cases e; omega)
  have hs2' := hs2.grown hg2' (by omega)
  have d2' := d2.young hg2' (by omega) (by omega)
  refine hK.out _ _ ?_ (fun hHeld => ?_)
  · exact hB2'.cells.1
  clear hK K
  try simp only [List.getElem_toArray, List.getElem_cons_succ, List.getElem_cons_zero, Act.put, List.setIfInBounds_toArray, List.set_cons_zero, List.set_cons_succ]
  refine wpAnyH_done (by kernel_rfl) ?_ _
  generalize w2.setCell ⟨Q, 1, none⟩ (.int .i64 (x1 + 20 + x2)) = v2 at *
  clear i0 i1 i2 j0 j1 j2 j3 hg2 hg2'
  obtain ⟨i0, i1, i2⟩ := hB2'.cells
  go_wp2_with fail
  refine wp_region_held_drew (S := fun w' => w'.cell? ⟨Q, 1, none⟩ = some (.int .i64 (x1 + 20 + x2))) (by kernel_rfl) ?_ (fun hHeld => ?_)
  · exact i1
  refine wpAnyH_take (i := 0) (v := ?vb0) rfl (by kernel_rfl) (by kernel_rfl) (by kernel_rfl) (fun _ _ _ h => h) (Or.inl ⟨rfl, ?yb0⟩) (by assumption) ?_
  case yb0 => (intro w hSw; (try dsimp only at hSw); go_simp; first | done | with_reducible rfl)
  try simp only [List.getElem_toArray, List.getElem_cons_succ, List.getElem_cons_zero, Act.put, List.setIfInBounds_toArray, List.set_cons_zero, List.set_cons_succ]
  refine wpAnyH_take (i := 1) (v := ?vb1) rfl (by kernel_rfl) (by kernel_rfl) (by kernel_rfl) (fun _ _ _ h => h) (Or.inl ⟨rfl, ?yb1⟩) (by assumption) ?_
  case yb1 => (intro w hSw; (try dsimp only at hSw); go_simp; first | done | with_reducible rfl)
  try simp only [List.getElem_toArray, List.getElem_cons_succ, List.getElem_cons_zero, Act.put, List.setIfInBounds_toArray, List.set_cons_zero, List.set_cons_succ]
  refine wpAnyH_take (i := 2) (v := ?vb2) rfl (by kernel_rfl) (by kernel_rfl) (by kernel_rfl) (fun _ _ _ h => h) (Or.inl ⟨rfl, ?yb2⟩) (by assumption) ?_
  case yb2 => (intro w hSw; (try dsimp only at hSw); go_simp; first | done | with_reducible rfl)
  try simp only [List.getElem_toArray, List.getElem_cons_succ, List.getElem_cons_zero, Act.put, List.setIfInBounds_toArray, List.set_cons_zero, List.set_cons_succ]
  refine wpAnyH_ready (rs := [3]) (by kernel_rfl) (by simp) ?_
  refine AllReadyH.cons rfl (fun K hK => ?_) AllReadyH.nil
  go_simp
  refine (pick_any r (t + 2 + 2) 16 v2.drew (show SrcAt v2.drew r (t + 2 + 2) from hs2') (by omega) (by omega)).mono ?_
  rintro e w3 ⟨x3, rfl, l3, u3, _, hs3, hg3⟩
  replace hg3 := grown_of_drew hg3
  replace u3 := u3 (by omega)
  have m4 : IntKind.i64.wrap (x1 + 20 + x2 - x3) = x1 + 20 + x2 - x3 := IntWalk.i64_in _ (by omega)
  have hB3 : CRow w3 Q ⟨x1, x1 + 20 + x2, 0⟩ := CRow.grown (w := v2) hB2' hg3 (fun e => by cases e; omega)
  have hR3 : CRow w3 R ⟨0, 0, 0⟩ := CRow.grown (w := v2) hR2' hg3 (fun e => by cases e; omega)
  have d3 : Drawn r R w w3 := d2'.pick hg3 (by have := hR2'.lt; omega)
  obtain ⟨j0, j1, j2⟩ := hB3.cells
  have j3 := hB3.frozen 2
  have hz3 := hR3.lt
  have hy3 := hB3.lt
  go_wp2_with fail
  refine hK.out _ _ ?_ (fun hHeld => ?_)
  · exact j1
  clear hK K
  try simp only [List.getElem_toArray, List.getElem_cons_succ, List.getElem_cons_zero, Act.put, List.setIfInBounds_toArray, List.set_cons_zero, List.set_cons_succ]
  refine wpAnyH_take (i := 4) (v := ?vc4) rfl (by kernel_rfl) (by kernel_rfl) (by kernel_rfl) (fun _ _ _ h => h) (Or.inl ⟨rfl, ?yc4⟩) (by assumption) ?_
  case yc4 => (intro w hSw; (try dsimp only at hSw); go_simp; first | done | with_reducible rfl)
  try simp only [List.getElem_toArray, List.getElem_cons_succ, List.getElem_cons_zero, Act.put, List.setIfInBounds_toArray, List.set_cons_zero, List.set_cons_succ]
  refine wpAnyH_take (i := 5) (v := ?vc5) rfl (by kernel_rfl) (by kernel_rfl) (by kernel_rfl) (fun _ _ _ h => h) (Or.inl ⟨rfl, ?yc5⟩) (by assumption) ?_
  case yc5 => (intro w hSw; (try dsimp only at hSw); go_simp; first | done | with_reducible rfl)
  try simp only [List.getElem_toArray, List.getElem_cons_succ, List.getElem_cons_zero, Act.put, List.setIfInBounds_toArray, List.set_cons_zero, List.set_cons_succ]
  refine wpAnyH_ready (rs := [6]) (by kernel_rfl) (by simp) ?_
  refine AllReadyH.cons rfl (fun K hK => ?_) AllReadyH.nil
  go_simp
  have hg3' : w3.grownBy (w3.setCell ⟨Q, 2, none⟩ (.int .i64 (x1 + 20 + x2 - x3))) (some Q) := grown_set
  have hB3' := hB3.put2 (x1 + 20 + x2 - x3)
  have hR3' := hR3.grown hg3' (fun e => by cases e; omega)
  have hs3' := hs3.grown hg3' (by omega)
  have d3' := d3.young hg3' (by omega) (by omega)
  refine hK.out _ _ ?_ (fun hHeld => ?_)
  · exact hB3'.cells.2.1
  clear hK K
  try simp only [List.getElem_toArray, List.getElem_cons_succ, List.getElem_cons_zero, Act.put, List.setIfInBounds_toArray, List.set_cons_zero, List.set_cons_succ]
  refine wpAnyH_done (by kernel_rfl) ?_ _
  generalize w3.setCell ⟨Q, 2, none⟩ (.int .i64 (x1 + 20 + x2 - x3)) = v3 at *
  clear i0 i1 i2 j0 j1 j2 j3 hg3 hg3'
  have hp4 := pick_any r (t + 2 + 2 + 2) 24 v3 hs3' (by omega) (by omega)
  obtain ⟨b0, b1, b2⟩ := hB3'.cells
  have n1 : IntKind.i64.wrap (x1 + 20 + x2 - 20) = x1 + 20 + x2 - 20 := IntWalk.i64_in _ (by omega)
  have n2 : IntKind.i64.wrap (x1 + 20 + x2 - 20 + 1) = x1 + 20 + x2 - 20 + 1 := IntWalk.i64_in _ (by omega)
  have n3 : IntKind.i64.wrap (x1 - 1) = x1 - 1 := IntWalk.i64_in _ (by omega)
  have n4 : IntKind.i64.wrap (x1 + 20 + x2 + 1) = x1 + 20 + x2 + 1 := IntWalk.i64_in _ (by omega)
  clear b0 b1 b2
  go_wp2_with fail
  refine hp4.mono ?_
  rintro e w4 ⟨x4, rfl, l4, u4, _, hs4, hg4⟩
  clear hp4
  have hB4 := hB3'.grown hg4 (fun e => by cases e; omega)
  have hR4 := hR3'.grown hg4 (fun e => by cases e; omega)
  have hz4 := hR4.lt
  have hy4 := hB4.lt
  have d4 := d3'.pick hg4 (by have := hR3'.lt; omega)
  obtain ⟨c0, c1, c2⟩ := hB4.cells
  by_cases hx0 : x4 = 0
  · have g0 : (x4 == 0) = true := beq_iff_eq.2 hx0
    clear hx0
    have hb5 := below_a1 w4 (.cells (List.map (fun x => Value.int .i64 x) [-1, 0, x1 + 20 + x2 - 20, x1 + 20 + x2 - 20 + 1, -9223372036854775808]).toArray 2)
    have hI5 := ints_lit w4 [-1, 0, x1 + 20 + x2 - 20, x1 + 20 + x2 - 20 + 1, -9223372036854775808] 2 5 rfl
    have hs5 := hs4.below hb5
    have hB5 := hB4.below hb5
    have hR5 := hR4.below hb5
    have d5 := d4.below hb5 (by omega)
    have hz5 := hR5.lt
    go_wp2_with fail
    refine (among_any r (t + 2 + 2 + 2 + 2) (some ⟨w4.heap.size, 0, none⟩) 5 5 [-1, 0, x1 + 20 + x2 - 20, x1 + 20 + x2 - 20 + 1, -9223372036854775808] _ hs5 (by omega) hI5 (by omega) (by omega) (fun p hp => by cases hp; simp only; omega)).mono ?_
    rintro e w6 ⟨y, hy, rfl, hs6, hg6⟩
    have hyb : -9223372036854775808 ≤ y ∧ y ≤ 9223372036854775807 := by simp only [List.mem_cons, List.not_mem_nil, or_false] at hy; omega
    have hB6 := hB5.grown hg6 (fun e => by cases e; omega)
    have hR6 := hR5.grown hg6 (fun e => by cases e; omega)
    have d6 := d5.pick hg6 (by omega)
    have hz6 := hR6.lt
    have hy6 := hB6.lt
    have fq := hB6.frozen 0
    obtain ⟨o0, o1, o2⟩ := hB6.cells
    clear hy hI5 hb5 c0 c1 c2
    have hg7 : w6.grownBy (w6.setCell ⟨Q, 0, none⟩ (.int .i64 y)) (some Q) := grown_set
    have hB7 := hB6.put0 y
    have hR7 := hR6.grown hg7 (fun e => by cases e; omega)
    have hs7 := hs6.grown hg7 (by omega)
    have d7 := d6.young hg7 (by omega) (by omega)
    obtain ⟨p0, p1, p2⟩ := hB7.cells
    obtain ⟨e0, e1, e2⟩ := hR7.cells
    have f0 := hR7.frozen 0
    have f1 := hR7.frozen 1
    have f2 := hR7.frozen 2
    have hgf := grown_put3 (w6.setCell ⟨Q, 0, none⟩ (.int .i64 y)) R (.int .i64 (y)) (.int .i64 (x1 + 20 + x2)) (.int .i64 (x1 + 20 + x2 - x3))
    have hRf := hR7.put3 (y) (x1 + 20 + x2) (x1 + 20 + x2 - x3)
    have dR := hR7.lt
    go_wp2
    obtain ⟨z0, z1, z2⟩ := hRf.cells
    have hsf := SrcAt.grown hs7 hgf (by omega)
    have hdf := Drawn.young d7 hgf (by omega) (Nat.le_refl _)
    generalize ((((w6.setCell ⟨Q, 0, none⟩ (.int .i64 y))).setCell ⟨R, 0, none⟩ (.int .i64 (y))).setCell ⟨R, 1, none⟩ (.int .i64 (x1 + 20 + x2))).setCell ⟨R, 2, none⟩ (.int .i64 (x1 + 20 + x2 - x3)) = wf at *
    (try simp only [Exit.inBlock, Exit.then])
    refine bodyPost_ret (v := .agg #[.int .i64 (y), .int .i64 (x1 + 20 + x2), .int .i64 (x1 + 20 + x2 - x3)]) (by simp [results, Try.results27, go_sem, z0, z1, z2]) rfl ?_
    subst hR
    exact ⟨⟨y, x1 + 20 + x2, x1 + 20 + x2 - x3⟩, rfl, ⟨wf64 (by (try simp only); omega), wf64 (by (try simp only); omega), wf64 (by (try simp only); omega)⟩, hsf.mono (by omega), hdf⟩
  · have g0 : (x4 == 0) = false := beq_eq_false_iff_ne.2 hx0
    clear hx0
    by_cases hx1 : x4 = 1
    · have g1 : (x4 == 1) = true := beq_iff_eq.2 hx1
      clear hx1
      have hb5 := below_a1 w4 (.cells (List.map (fun x => Value.int .i64 x) [-1, 300, 301]).toArray 2)
      have hI5 := ints_lit w4 [-1, 300, 301] 2 3 rfl
      have hs5 := hs4.below hb5
      have hB5 := hB4.below hb5
      have hR5 := hR4.below hb5
      have d5 := d4.below hb5 (by omega)
      have hz5 := hR5.lt
      go_wp2_with fail
      refine (among_any r (t + 2 + 2 + 2 + 2) (some ⟨w4.heap.size, 0, none⟩) 3 3 [-1, 300, 301] _ hs5 (by omega) hI5 (by omega) (by omega) (fun p hp => by cases hp; simp only; omega)).mono ?_
      rintro e w6 ⟨y, hy, rfl, hs6, hg6⟩
      have hyb : -9223372036854775808 ≤ y ∧ y ≤ 9223372036854775807 := by simp only [List.mem_cons, List.not_mem_nil, or_false] at hy; omega
      have hB6 := hB5.grown hg6 (fun e => by cases e; omega)
      have hR6 := hR5.grown hg6 (fun e => by cases e; omega)
      have d6 := d5.pick hg6 (by omega)
      have hz6 := hR6.lt
      have hy6 := hB6.lt
      have fq := hB6.frozen 1
      obtain ⟨o0, o1, o2⟩ := hB6.cells
      clear hy hI5 hb5 c0 c1 c2
      have hg7 : w6.grownBy (w6.setCell ⟨Q, 1, none⟩ (.int .i64 y)) (some Q) := grown_set
      have hB7 := hB6.put1 y
      have hR7 := hR6.grown hg7 (fun e => by cases e; omega)
      have hs7 := hs6.grown hg7 (by omega)
      have d7 := d6.young hg7 (by omega) (by omega)
      obtain ⟨p0, p1, p2⟩ := hB7.cells
      obtain ⟨e0, e1, e2⟩ := hR7.cells
      have f0 := hR7.frozen 0
      have f1 := hR7.frozen 1
      have f2 := hR7.frozen 2
      have hgf := grown_put3 (w6.setCell ⟨Q, 1, none⟩ (.int .i64 y)) R (.int .i64 (x1)) (.int .i64 (y)) (.int .i64 (x1 + 20 + x2 - x3))
      have hRf := hR7.put3 (x1) (y) (x1 + 20 + x2 - x3)
      have dR := hR7.lt
      go_wp2
      obtain ⟨z0, z1, z2⟩ := hRf.cells
      have hsf := SrcAt.grown hs7 hgf (by omega)
      have hdf := Drawn.young d7 hgf (by omega) (Nat.le_refl _)
      generalize ((((w6.setCell ⟨Q, 1, none⟩ (.int .i64 y))).setCell ⟨R, 0, none⟩ (.int .i64 (x1))).setCell ⟨R, 1, none⟩ (.int .i64 (y))).setCell ⟨R, 2, none⟩ (.int .i64 (x1 + 20 + x2 - x3)) = wf at *
      (try simp only [Exit.inBlock, Exit.then])
      refine bodyPost_ret (v := .agg #[.int .i64 (x1), .int .i64 (y), .int .i64 (x1 + 20 + x2 - x3)]) (by simp [results, Try.results27, go_sem, z0, z1, z2]) rfl ?_
      subst hR
      exact ⟨⟨x1, y, x1 + 20 + x2 - x3⟩, rfl, ⟨wf64 (by (try simp only); omega), wf64 (by (try simp only); omega), wf64 (by (try simp only); omega)⟩, hsf.mono (by omega), hdf⟩
    · have g1 : (x4 == 1) = false := beq_eq_false_iff_ne.2 hx1
      clear hx1
      by_cases hx2 : x4 = 2
      · have g2 : (x4 == 2) = true := beq_iff_eq.2 hx2
        clear hx2
        have hb5 := below_a1 w4 (.cells (List.map (fun x => Value.int .i64 x) [-1, x1 - 1, x1, x1 + 20 + x2, x1 + 20 + x2 + 1]).toArray 2)
        have hI5 := ints_lit w4 [-1, x1 - 1, x1, x1 + 20 + x2, x1 + 20 + x2 + 1] 2 5 rfl
        have hs5 := hs4.below hb5
        have hB5 := hB4.below hb5
        have hR5 := hR4.below hb5
        have d5 := d4.below hb5 (by omega)
        have hz5 := hR5.lt
        go_wp2_with fail
        refine (among_any r (t + 2 + 2 + 2 + 2) (some ⟨w4.heap.size, 0, none⟩) 5 5 [-1, x1 - 1, x1, x1 + 20 + x2, x1 + 20 + x2 + 1] _ hs5 (by omega) hI5 (by omega) (by omega) (fun p hp => by cases hp; simp only; omega)).mono ?_
        rintro e w6 ⟨y, hy, rfl, hs6, hg6⟩
        have hyb : -9223372036854775808 ≤ y ∧ y ≤ 9223372036854775807 := by simp only [List.mem_cons, List.not_mem_nil, or_false] at hy; omega
        have hB6 := hB5.grown hg6 (fun e => by cases e; omega)
        have hR6 := hR5.grown hg6 (fun e => by cases e; omega)
        have d6 := d5.pick hg6 (by omega)
        have hz6 := hR6.lt
        have hy6 := hB6.lt
        have fq := hB6.frozen 2
        obtain ⟨o0, o1, o2⟩ := hB6.cells
        clear hy hI5 hb5 c0 c1 c2
        have hg7 : w6.grownBy (w6.setCell ⟨Q, 2, none⟩ (.int .i64 y)) (some Q) := grown_set
        have hB7 := hB6.put2 y
        have hR7 := hR6.grown hg7 (fun e => by cases e; omega)
        have hs7 := hs6.grown hg7 (by omega)
        have d7 := d6.young hg7 (by omega) (by omega)
        obtain ⟨p0, p1, p2⟩ := hB7.cells
        obtain ⟨e0, e1, e2⟩ := hR7.cells
        have f0 := hR7.frozen 0
        have f1 := hR7.frozen 1
        have f2 := hR7.frozen 2
        have hgf := grown_put3 (w6.setCell ⟨Q, 2, none⟩ (.int .i64 y)) R (.int .i64 (x1)) (.int .i64 (x1 + 20 + x2)) (.int .i64 (y))
        have hRf := hR7.put3 (x1) (x1 + 20 + x2) (y)
        have dR := hR7.lt
        go_wp2
        obtain ⟨z0, z1, z2⟩ := hRf.cells
        have hsf := SrcAt.grown hs7 hgf (by omega)
        have hdf := Drawn.young d7 hgf (by omega) (Nat.le_refl _)
        generalize ((((w6.setCell ⟨Q, 2, none⟩ (.int .i64 y))).setCell ⟨R, 0, none⟩ (.int .i64 (x1))).setCell ⟨R, 1, none⟩ (.int .i64 (x1 + 20 + x2))).setCell ⟨R, 2, none⟩ (.int .i64 (y)) = wf at *
        (try simp only [Exit.inBlock, Exit.then])
        refine bodyPost_ret (v := .agg #[.int .i64 (x1), .int .i64 (x1 + 20 + x2), .int .i64 (y)]) (by simp [results, Try.results27, go_sem, z0, z1, z2]) rfl ?_
        subst hR
        exact ⟨⟨x1, x1 + 20 + x2, y⟩, rfl, ⟨wf64 (by (try simp only); omega), wf64 (by (try simp only); omega), wf64 (by (try simp only); omega)⟩, hsf.mono (by omega), hdf⟩
      · have g2 : (x4 == 2) = false := beq_eq_false_iff_ne.2 hx2
        clear hx2
        obtain ⟨p0, p1, p2⟩ := hB4.cells
        obtain ⟨e0, e1, e2⟩ := hR4.cells
        have f0 := hR4.frozen 0
        have f1 := hR4.frozen 1
        have f2 := hR4.frozen 2
        have hgf := grown_put3 w4 R (.int .i64 (x1)) (.int .i64 (x1 + 20 + x2)) (.int .i64 (x1 + 20 + x2 - x3))
        have hRf := hR4.put3 (x1) (x1 + 20 + x2) (x1 + 20 + x2 - x3)
        have dR := hR4.lt
        go_wp2
        obtain ⟨z0, z1, z2⟩ := hRf.cells
        have hsf := SrcAt.grown hs4 hgf (by omega)
        have hdf := Drawn.young d4 hgf (by omega) (Nat.le_refl _)
        generalize (((w4).setCell ⟨R, 0, none⟩ (.int .i64 (x1))).setCell ⟨R, 1, none⟩ (.int .i64 (x1 + 20 + x2))).setCell ⟨R, 2, none⟩ (.int .i64 (x1 + 20 + x2 - x3)) = wf at *
        (try simp only [Exit.inBlock, Exit.then])
        refine bodyPost_ret (v := .agg #[.int .i64 (x1), .int .i64 (x1 + 20 + x2), .int .i64 (x1 + 20 + x2 - x3)]) (by simp [results, Try.results27, go_sem, z0, z1, z2]) rfl ?_
        subst hR
        exact ⟨⟨x1, x1 + 20 + x2, x1 + 20 + x2 - x3⟩, rfl, ⟨wf64 (by (try simp only); omega), wf64 (by (try simp only); omega), wf64 (by (try simp only); omega)⟩, hsf.mono (by omega), hdf⟩
end Go.Proofs.Ytphhpmnigchooaa
