/- The program's spotsOf and ValidLayout. -/
import Derived.Test.YticggclpaalhgaaDoorRdB
namespace Go.Proofs.YticggclpaalhgaaDoor
open Go.RowKit Go.ChangeMaps Go.MapKept
set_option linter.unusedVariables false
set_option linter.unusedSimpArgs false

theorem rd_start {w1 : World} {M : Nat} {t : TypeId} (hM : MapIs byteV w1 M (spotL6 [])) : RdAt (w1.alloc (.cells #[.int .i64 0, .int .i64 0, .map (some M)] t)) w1.heap.size M rd0 :=
  ⟨cell_new rfl rfl, cell_new rfl rfl, cell_new rfl rfl, fun o => frozen_new rfl, by have := hM.lt; omega, hM.below (B := w1.heap.size) (below_a1 _ _) hM.lt⟩
theorem only_cell {a b : Nat} {w w' : World} {p : Addr} {v : Value} (h : Only2 a b w w') (hp : w.cell? p = some v) (h1 : p.block ≠ a) (h2 : p.block ≠ b) : w'.cell? p = some v :=
  (World.cell?_of_block (h.block p.block (World.block_lt_of_cell? _ _ hp) h1 h2)).trans hp

end Go.Proofs.YticggclpaalhgaaDoor
