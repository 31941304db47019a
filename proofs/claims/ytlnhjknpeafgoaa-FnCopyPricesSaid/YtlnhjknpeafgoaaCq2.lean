/- Copies: the program's office: prices of copies. -/
import Derived.Test.YtlnhjknpeafgoaaCq1
namespace Go.Proofs.Ytlnhjknpeafgoaa
open Go.RowKit Go.ChangeShapes Go.WideShapes Go.Deep
set_option linter.unusedVariables false
set_option linter.unusedSimpArgs false

theorem set_block13 {w : World} {R i : Nat} {cs : Array Value} {t : TypeId} {v : Value} (h : w.heap[R]? = some (.cells cs t)) : (w.setCell ⟨R, i, none⟩ v).heap[R]? = some (.cells (cs.setIfInBounds i v) t) := by
  have hR : R < w.heap.size := (Array.getElem?_eq_some_iff.1 h).1
  have e := (Array.getElem?_eq_some_iff.1 h).2
  unfold World.setCell
  simp only [Array.getElem?_eq_some_iff]
  refine ⟨by simpa using hR, ?_⟩
  rw [Array.getElem_modify_self, e]
  simp
theorem blocks3 {w w' : World} {a b c : Obj} (hb : Below (((w.alloc a).alloc b).alloc c).heap.size (((w.alloc a).alloc b).alloc c) w') : w'.heap[w.heap.size]? = some a ∧ w'.heap[w.heap.size + 1]? = some b ∧ w'.heap[w.heap.size + 1 + 1]? = some c := by
  refine ⟨(hb.block _ (by simp; omega)).trans ?_, (hb.block _ (by simp)).trans ?_, (hb.block _ (by simp)).trans ?_⟩
  · rw [heap_alloc_old _ _ (by simp; omega), heap_alloc_old _ _ (by simp), heap_alloc_new]
  · rw [heap_alloc_old _ _ (by simp), show w.heap.size + 1 = (w.alloc a).heap.size by simp, heap_alloc_new]
  · rw [show w.heap.size + 1 + 1 = ((w.alloc a).alloc b).heap.size by simp, heap_alloc_new]
def offV (c : CarbonD) (x : WaysD) (v : Bool) : Value := if v = true then .agg #[.int .i64 c.force, .int .i64 c.loss, .int .i64 c.least, .int .i64 x.typing, .int .i64 x.sheet, .int .i64 x.stencil, .int .i64 x.pull] else .agg #[.int .i64 0, .int .i64 0, .int .i64 0, .int .i64 0, .int .i64 0, .int .i64 0, .int .i64 0]
def offC (v : Bool) : Int := if v = true then 0 else 1
set_option maxRecDepth 100000 in
set_option maxHeartbeats 2400000 in
theorem open13i (c : CarbonD) (x : WaysD) {v : Bool} (hv : (caB c && waB x) = v) (w : World) :
    Calls Try.prog 25 #[.agg #[.int .i64 c.force, .int .i64 c.loss, .int .i64 c.least], .agg #[.int .i64 x.typing, .int .i64 x.sheet, .int .i64 x.stencil, .int .i64 x.pull]] w fun e w' => e = .returned (.tuple #[offV c x v, .int .i64 (offC v)]) ∧ Below w.heap.size w w' := by
  cases h1 : caB c with
  | false =>
    have hr : Hid (v = false) := Lib.hid (by rw [← hv, h1]; rfl)
    have hc := Lib.hid (fun W => vc13i c h1 W)
    clear h1 hv
    obtain ⟨F, L, E⟩ := c
    obtain ⟨a, b, s, p⟩ := x
    go_enter Try.func25, Try.ntmps25
    go_wp2_with fail
    refine (hc.out _).mono ?_
    rintro e w2 ⟨rfl, hb2⟩
    obtain ⟨_, _, hO1⟩ := blocks3 hb2
    have hbw := (below_a3 _ _ _ _).step hb2
    clear hb2
    have hlt := own_lt hO1
    have L0 := own_cell hO1 (o := 0) rfl
    have L1 := own_cell hO1 (o := 1) rfl
    have L2 := own_cell hO1 (o := 2) rfl
    have L3 := own_cell hO1 (o := 3) rfl
    have L4 := own_cell hO1 (o := 4) rfl
    have L5 := own_cell hO1 (o := 5) rfl
    have L6 := own_cell hO1 (o := 6) rfl
    have F0 := own_frozen hO1 0
    have F1 := own_frozen hO1 1
    have F2 := own_frozen hO1 2
    have F3 := own_frozen hO1 3
    have F4 := own_frozen hO1 4
    have F5 := own_frozen hO1 5
    have F6 := own_frozen hO1 6
    clear hc
    go_wp2
    have hZ := (set_block13 (i := 6) (v := .int .i64 0) (set_block13 (i := 5) (v := .int .i64 0) (set_block13 (i := 4) (v := .int .i64 0) (set_block13 (i := 3) (v := .int .i64 0) (set_block13 (i := 2) (v := .int .i64 0) (set_block13 (i := 1) (v := .int .i64 0) (set_block13 (i := 0) (v := .int .i64 0) hO1)))))))
    simp only [List.setIfInBounds_toArray, List.set_cons_zero, List.set_cons_succ] at hZ
    have hbz : Below w.heap.size w (((((((w2.setCell ⟨w.heap.size + 1 + 1, 0, none⟩ (.int .i64 0)).setCell ⟨w.heap.size + 1 + 1, 1, none⟩ (.int .i64 0)).setCell ⟨w.heap.size + 1 + 1, 2, none⟩ (.int .i64 0)).setCell ⟨w.heap.size + 1 + 1, 3, none⟩ (.int .i64 0)).setCell ⟨w.heap.size + 1 + 1, 4, none⟩ (.int .i64 0)).setCell ⟨w.heap.size + 1 + 1, 5, none⟩ (.int .i64 0)).setCell ⟨w.heap.size + 1 + 1, 6, none⟩ (.int .i64 0)) := ((((((((((((((hbw).setCell (Nat.le_add_right_of_le (Nat.le_add_right _ _)) _)).setCell (Nat.le_add_right_of_le (Nat.le_add_right _ _)) _)).setCell (Nat.le_add_right_of_le (Nat.le_add_right _ _)) _)).setCell (Nat.le_add_right_of_le (Nat.le_add_right _ _)) _)).setCell (Nat.le_add_right_of_le (Nat.le_add_right _ _)) _)).setCell (Nat.le_add_right_of_le (Nat.le_add_right _ _)) _)).setCell (Nat.le_add_right_of_le (Nat.le_add_right _ _)) _)
    clear L0 L1 L2 L3 L4 L5 L6 F0 F1 F2 F3 F4 F5 F6
    generalize (((((((w2.setCell ⟨w.heap.size + 1 + 1, 0, none⟩ (.int .i64 0)).setCell ⟨w.heap.size + 1 + 1, 1, none⟩ (.int .i64 0)).setCell ⟨w.heap.size + 1 + 1, 2, none⟩ (.int .i64 0)).setCell ⟨w.heap.size + 1 + 1, 3, none⟩ (.int .i64 0)).setCell ⟨w.heap.size + 1 + 1, 4, none⟩ (.int .i64 0)).setCell ⟨w.heap.size + 1 + 1, 5, none⟩ (.int .i64 0)).setCell ⟨w.heap.size + 1 + 1, 6, none⟩ (.int .i64 0)) = wz at *
    have hlz := own_lt hZ
    have z0 := own_cell hZ (o := 0) rfl
    have z1 := own_cell hZ (o := 1) rfl
    have z2 := own_cell hZ (o := 2) rfl
    have z3 := own_cell hZ (o := 3) rfl
    have z4 := own_cell hZ (o := 4) rfl
    have z5 := own_cell hZ (o := 5) rfl
    have z6 := own_cell hZ (o := 6) rfl
    refine bodyPost_ret (v := .tuple #[.agg #[.int .i64 0, .int .i64 0, .int .i64 0, .int .i64 0, .int .i64 0, .int .i64 0, .int .i64 0], .int .i64 1]) (by simp [results, Try.results25, go_sem, z0, z1, z2, z3, z4, z5, z6, hlz]) rfl ?_
    exact ⟨by rw [hr.out]; rfl, hbz⟩
  | true =>
    have hc := Lib.hid (fun W => vc13i c h1 W)
    cases h2 : waB x with
    | false =>
      have hr : Hid (v = false) := Lib.hid (by rw [← hv, h1, h2]; rfl)
      have hc2 := Lib.hid (fun W => vw13i x h2 W)
      clear h1 h2 hv
      obtain ⟨F, L, E⟩ := c
      obtain ⟨a, b, s, p⟩ := x
      go_enter Try.func25, Try.ntmps25
      go_wp2_with fail
      refine (hc.out _).mono ?_
      rintro e w1 ⟨rfl, hb1⟩
      obtain ⟨_, hX0, hO0⟩ := blocks3 hb1
      have hbw0 := (below_a3 _ _ _ _).step hb1
      clear hb1
      have c0 := own_cell hX0 (o := 0) rfl
      have c1 := own_cell hX0 (o := 1) rfl
      have c2 := own_cell hX0 (o := 2) rfl
      have c3 := own_cell hX0 (o := 3) rfl
      have hltX := own_lt hX0
      go_wp2_with fail
      refine (hc2.out _).mono ?_
      rintro e w2 ⟨rfl, hb2⟩
      have hO1 := (hb2.block _ (own_lt hO0)).trans hO0
      have hbw := hbw0.step hb2
      clear hb2 hO0 hX0 hbw0 c0 c1 c2 c3 hc2
      have hlt := own_lt hO1
      have L0 := own_cell hO1 (o := 0) rfl
      have L1 := own_cell hO1 (o := 1) rfl
      have L2 := own_cell hO1 (o := 2) rfl
      have L3 := own_cell hO1 (o := 3) rfl
      have L4 := own_cell hO1 (o := 4) rfl
      have L5 := own_cell hO1 (o := 5) rfl
      have L6 := own_cell hO1 (o := 6) rfl
      have F0 := own_frozen hO1 0
      have F1 := own_frozen hO1 1
      have F2 := own_frozen hO1 2
      have F3 := own_frozen hO1 3
      have F4 := own_frozen hO1 4
      have F5 := own_frozen hO1 5
      have F6 := own_frozen hO1 6
      clear hc
      go_wp2
      have hZ := (set_block13 (i := 6) (v := .int .i64 0) (set_block13 (i := 5) (v := .int .i64 0) (set_block13 (i := 4) (v := .int .i64 0) (set_block13 (i := 3) (v := .int .i64 0) (set_block13 (i := 2) (v := .int .i64 0) (set_block13 (i := 1) (v := .int .i64 0) (set_block13 (i := 0) (v := .int .i64 0) hO1)))))))
      simp only [List.setIfInBounds_toArray, List.set_cons_zero, List.set_cons_succ] at hZ
      have hbz : Below w.heap.size w (((((((w2.setCell ⟨w.heap.size + 1 + 1, 0, none⟩ (.int .i64 0)).setCell ⟨w.heap.size + 1 + 1, 1, none⟩ (.int .i64 0)).setCell ⟨w.heap.size + 1 + 1, 2, none⟩ (.int .i64 0)).setCell ⟨w.heap.size + 1 + 1, 3, none⟩ (.int .i64 0)).setCell ⟨w.heap.size + 1 + 1, 4, none⟩ (.int .i64 0)).setCell ⟨w.heap.size + 1 + 1, 5, none⟩ (.int .i64 0)).setCell ⟨w.heap.size + 1 + 1, 6, none⟩ (.int .i64 0)) := ((((((((((((((hbw).setCell (Nat.le_add_right_of_le (Nat.le_add_right _ _)) _)).setCell (Nat.le_add_right_of_le (Nat.le_add_right _ _)) _)).setCell (Nat.le_add_right_of_le (Nat.le_add_right _ _)) _)).setCell (Nat.le_add_right_of_le (Nat.le_add_right _ _)) _)).setCell (Nat.le_add_right_of_le (Nat.le_add_right _ _)) _)).setCell (Nat.le_add_right_of_le (Nat.le_add_right _ _)) _)).setCell (Nat.le_add_right_of_le (Nat.le_add_right _ _)) _)
      clear L0 L1 L2 L3 L4 L5 L6 F0 F1 F2 F3 F4 F5 F6
      generalize (((((((w2.setCell ⟨w.heap.size + 1 + 1, 0, none⟩ (.int .i64 0)).setCell ⟨w.heap.size + 1 + 1, 1, none⟩ (.int .i64 0)).setCell ⟨w.heap.size + 1 + 1, 2, none⟩ (.int .i64 0)).setCell ⟨w.heap.size + 1 + 1, 3, none⟩ (.int .i64 0)).setCell ⟨w.heap.size + 1 + 1, 4, none⟩ (.int .i64 0)).setCell ⟨w.heap.size + 1 + 1, 5, none⟩ (.int .i64 0)).setCell ⟨w.heap.size + 1 + 1, 6, none⟩ (.int .i64 0)) = wz at *
      have hlz := own_lt hZ
      have z0 := own_cell hZ (o := 0) rfl
      have z1 := own_cell hZ (o := 1) rfl
      have z2 := own_cell hZ (o := 2) rfl
      have z3 := own_cell hZ (o := 3) rfl
      have z4 := own_cell hZ (o := 4) rfl
      have z5 := own_cell hZ (o := 5) rfl
      have z6 := own_cell hZ (o := 6) rfl
      refine bodyPost_ret (v := .tuple #[.agg #[.int .i64 0, .int .i64 0, .int .i64 0, .int .i64 0, .int .i64 0, .int .i64 0, .int .i64 0], .int .i64 1]) (by simp [results, Try.results25, go_sem, z0, z1, z2, z3, z4, z5, z6, hlz]) rfl ?_
      exact ⟨by rw [hr.out]; rfl, hbz⟩
    | true =>
      have hr : Hid (v = true) := Lib.hid (by rw [← hv, h1, h2]; rfl)
      have hc2 := Lib.hid (fun W => vw13i x h2 W)
      clear h1 h2 hv
      obtain ⟨F, L, E⟩ := c
      obtain ⟨a, b, s, p⟩ := x
      go_enter Try.func25, Try.ntmps25
      go_wp2_with fail
      refine (hc.out _).mono ?_
      rintro e w1 ⟨rfl, hb1⟩
      obtain ⟨hC0, hX0, hO0⟩ := blocks3 hb1
      have hbw0 := (below_a3 _ _ _ _).step hb1
      clear hb1
      have c0 := own_cell hX0 (o := 0) rfl
      have c1 := own_cell hX0 (o := 1) rfl
      have c2 := own_cell hX0 (o := 2) rfl
      have c3 := own_cell hX0 (o := 3) rfl
      have hltX := own_lt hX0
      go_wp2_with fail
      refine (hc2.out _).mono ?_
      rintro e w2 ⟨rfl, hb2⟩
      have hO1 := (hb2.block _ (own_lt hO0)).trans hO0
      have hX1 := (hb2.block _ (own_lt hX0)).trans hX0
      have hC1 := (hb2.block _ (own_lt hC0)).trans hC0
      have hbw := hbw0.step hb2
      clear hb2 hO0 hX0 hC0 hbw0 c0 c1 c2 c3 hc2 hltX
      have c0 := own_cell hX1 (o := 0) rfl
      have c1 := own_cell hX1 (o := 1) rfl
      have c2 := own_cell hX1 (o := 2) rfl
      have c3 := own_cell hX1 (o := 3) rfl
      have d0 := own_cell hC1 (o := 0) rfl
      have d1 := own_cell hC1 (o := 1) rfl
      have d2 := own_cell hC1 (o := 2) rfl
      have hltX := own_lt hX1
      have hltC := own_lt hC1
      have hlt := own_lt hO1
      have L0 := own_cell hO1 (o := 0) rfl
      have L1 := own_cell hO1 (o := 1) rfl
      have L2 := own_cell hO1 (o := 2) rfl
      have L3 := own_cell hO1 (o := 3) rfl
      have L4 := own_cell hO1 (o := 4) rfl
      have L5 := own_cell hO1 (o := 5) rfl
      have L6 := own_cell hO1 (o := 6) rfl
      have F0 := own_frozen hO1 0
      have F1 := own_frozen hO1 1
      have F2 := own_frozen hO1 2
      have F3 := own_frozen hO1 3
      have F4 := own_frozen hO1 4
      have F5 := own_frozen hO1 5
      have F6 := own_frozen hO1 6
      clear hc
      go_wp2
      have hZ := (set_block13 (i := 6) (v := .int .i64 p) (set_block13 (i := 5) (v := .int .i64 s) (set_block13 (i := 4) (v := .int .i64 b) (set_block13 (i := 3) (v := .int .i64 a) (set_block13 (i := 2) (v := .int .i64 E) (set_block13 (i := 1) (v := .int .i64 L) (set_block13 (i := 0) (v := .int .i64 F) hO1)))))))
      simp only [List.setIfInBounds_toArray, List.set_cons_zero, List.set_cons_succ] at hZ
      have hbz : Below w.heap.size w (((((((w2.setCell ⟨w.heap.size + 1 + 1, 0, none⟩ (.int .i64 F)).setCell ⟨w.heap.size + 1 + 1, 1, none⟩ (.int .i64 L)).setCell ⟨w.heap.size + 1 + 1, 2, none⟩ (.int .i64 E)).setCell ⟨w.heap.size + 1 + 1, 3, none⟩ (.int .i64 a)).setCell ⟨w.heap.size + 1 + 1, 4, none⟩ (.int .i64 b)).setCell ⟨w.heap.size + 1 + 1, 5, none⟩ (.int .i64 s)).setCell ⟨w.heap.size + 1 + 1, 6, none⟩ (.int .i64 p)) := ((((((((((((((hbw).setCell (Nat.le_add_right_of_le (Nat.le_add_right _ _)) _)).setCell (Nat.le_add_right_of_le (Nat.le_add_right _ _)) _)).setCell (Nat.le_add_right_of_le (Nat.le_add_right _ _)) _)).setCell (Nat.le_add_right_of_le (Nat.le_add_right _ _)) _)).setCell (Nat.le_add_right_of_le (Nat.le_add_right _ _)) _)).setCell (Nat.le_add_right_of_le (Nat.le_add_right _ _)) _)).setCell (Nat.le_add_right_of_le (Nat.le_add_right _ _)) _)
      clear L0 L1 L2 L3 L4 L5 L6 F0 F1 F2 F3 F4 F5 F6
      generalize (((((((w2.setCell ⟨w.heap.size + 1 + 1, 0, none⟩ (.int .i64 F)).setCell ⟨w.heap.size + 1 + 1, 1, none⟩ (.int .i64 L)).setCell ⟨w.heap.size + 1 + 1, 2, none⟩ (.int .i64 E)).setCell ⟨w.heap.size + 1 + 1, 3, none⟩ (.int .i64 a)).setCell ⟨w.heap.size + 1 + 1, 4, none⟩ (.int .i64 b)).setCell ⟨w.heap.size + 1 + 1, 5, none⟩ (.int .i64 s)).setCell ⟨w.heap.size + 1 + 1, 6, none⟩ (.int .i64 p)) = wz at *
      have hlz := own_lt hZ
      have z0 := own_cell hZ (o := 0) rfl
      have z1 := own_cell hZ (o := 1) rfl
      have z2 := own_cell hZ (o := 2) rfl
      have z3 := own_cell hZ (o := 3) rfl
      have z4 := own_cell hZ (o := 4) rfl
      have z5 := own_cell hZ (o := 5) rfl
      have z6 := own_cell hZ (o := 6) rfl
      refine bodyPost_ret (v := .tuple #[.agg #[.int .i64 F, .int .i64 L, .int .i64 E, .int .i64 a, .int .i64 b, .int .i64 s, .int .i64 p], .int .i64 0]) (by simp [results, Try.results25, go_sem, z0, z1, z2, z3, z4, z5, z6, hlz]) rfl ?_
      exact ⟨by rw [hr.out]; rfl, hbz⟩
end Go.Proofs.Ytlnhjknpeafgoaa
