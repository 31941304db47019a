/- Bars: whether strokes are valid: the model's function and the program's. -/
import Derived.Test.YthgeoilkjloblaaBarsB
namespace Go.Proofs.Ythgeoilkjloblaa
open Go.RowKit
set_option linter.unusedVariables false
set_option linter.unusedSimpArgs false

/-- Five cells of a block, carried together. -/
def BoxB (w : World) (N : Nat) (b : BasketD) : Prop := w.cell? ⟨N, 0, none⟩ = some (.int .i64 b.bars) ∧ w.cell? ⟨N, 1, none⟩ = some (.int .i64 b.rise) ∧ w.cell? ⟨N, 2, none⟩ = some (.int .i64 b.fall) ∧ w.cell? ⟨N, 3, none⟩ = some (.int .i64 b.clear) ∧ w.cell? ⟨N, 4, none⟩ = some (.int .i64 b.near)
theorem BoxB.step {w w' : World} {N : Nat} {b : BasketD} (h : BoxB w N b) (hb : Below w.heap.size w w') : BoxB w' N b := by
  obtain ⟨c0, c1, c2, c3, c4⟩ := h
  exact ⟨cell_step c0 hb, cell_step c1 hb, cell_step c2 hb, cell_step c3 hb, cell_step c4 hb⟩
theorem BoxB.lt {w : World} {N : Nat} {b : BasketD} (h : BoxB w N b) : N < w.heap.size := World.block_lt_of_cell? w _ h.1
theorem BoxB.new (w : World) (b : BasketD) (t : TypeId) : BoxB (w.alloc (.cells #[.int .i64 b.bars, .int .i64 b.rise, .int .i64 b.fall, .int .i64 b.clear, .int .i64 b.near] t)) w.heap.size b :=
  ⟨cell_new rfl rfl, cell_new rfl rfl, cell_new rfl rfl, cell_new rfl rfl, cell_new rfl rfl⟩

theorem in_b {n lo hi : Int} {v : Bool} (h : isIn n lo hi = v) (w : World) : Calls Try.prog 62 #[.int .i64 n, .int .i64 lo, .int .i64 hi] w fun e w' => e = .returned (.bool v) ∧ Below w.heap.size w w' :=
  (in_spec h w).mono fun _ _ ⟨h, e⟩ => ⟨h, e ▸ Below.refl _ _⟩
set_option maxRecDepth 100000 in
theorem bar_any (b : BasketD) : ∃ hi : Int, (basketOk b = true → hi = b.bars - 1) ∧ ∀ (m : Int) (v : Bool), isIn m 0 hi = v → ∀ W : World, Calls Try.prog 79 #[.agg #[.int .i64 b.bars, .int .i64 b.rise, .int .i64 b.fall, .int .i64 b.clear, .int .i64 b.near], .int .i64 m] W fun e w' => e = .returned (.bool v) ∧ Below W.heap.size W w' := by
  by_cases hb : basketOk b = true
  · exact ⟨b.bars - 1, fun _ => rfl, fun m v hv W => bar_spec b m (v := v) hv hb W⟩
  · refine ⟨wrap64 (b.bars - 1), fun h => absurd h hb, fun m v hv W => ?_⟩
    obtain ⟨bars, rise, fall, clear, near⟩ := b
    clear hb
    replace hv := Lib.hid hv
    go_enter Try.func79, Try.ntmps79
    go_wp2_with fail
    refine (in_spec hv.out _).mono ?_
    rintro e w' ⟨rfl, rfl⟩
    go_wp2
    go_ret
    exact ⟨rfl, below_a1 _ _⟩

end Go.Proofs.Ythgeoilkjloblaa
