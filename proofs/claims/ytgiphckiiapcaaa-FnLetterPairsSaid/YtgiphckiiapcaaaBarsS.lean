/- Bars: whether strokes are valid: the model's function and the program's. -/
import Derived.Test.YtgiphckiiapcaaaBarsB
namespace Go.Proofs.Ytgiphckiiapcaaa
open Go.RowKit
set_option linter.unusedVariables false
set_option linter.unusedSimpArgs false

/-- Five cells of a block, carried together. -/
def BoxB (w : World) (N : Nat) (b : BasketD) : Prop := w.cell? ⟨N, 0, none⟩ = some (.int .i64 b.bars) ∧ w.cell? ⟨N, 1, none⟩ = some (.int .i64 b.rise) ∧ w.cell? ⟨N, 2, none⟩ = some (.int .i64 b.fall) ∧ w.cell? ⟨N, 3, none⟩ = some (.int .i64 b.clear) ∧ w.cell? ⟨N, 4, none⟩ = some (.int .i64 b.near)
theorem BoxB.step {w w' : World} {N : Nat} {b : BasketD} (h : BoxB w N b) (hb : Below w.heap.size w w') : BoxB w' N b := by
  obtain ⟨c0, c1, c2, c3, c4⟩ := h
  exact ⟨cell_step c0 hb, cell_step c1 hb, cell_step c2 hb, cell_step c3 hb, cell_step c4 hb⟩
theorem BoxB.lt {w : World} {N : Nat} {b : BasketD} (h : BoxB w N b) : N < w.heap.size := World.block_lt_of_cell? w _ h.1
theorem BoxB.new (w : World) (b : BasketD) (t : TypeId) : BoxB (w.alloc (.cells #[.int .i64 b.bars, .int .i64 b.rise, .int .i64 b.fall, .int .i64 b.clear, .int .i64 b.near] t)) w.heap.size b :=
  ⟨cell_new rfl rfl, cell_new rfl rfl, cell_new rfl rfl, cell_new rfl rfl, cell_new rfl rfl⟩

theorem in_b {n lo hi : Int} {v : Bool} (h : isIn n lo hi = v) (w : World) : Calls Try.prog 52 #[.int .i64 n, .int .i64 lo, .int .i64 hi] w fun e w' => e = .returned (.bool v) ∧ Below w.heap.size w w' :=
  (in_spec h w).mono fun _ _ ⟨h, e⟩ => ⟨h, e ▸ Below.refl _ _⟩
end Go.Proofs.Ytgiphckiiapcaaa
