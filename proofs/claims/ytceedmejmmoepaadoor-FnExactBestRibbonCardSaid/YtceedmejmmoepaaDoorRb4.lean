/- Ribbons: the model's shade of a stroke. -/
import Derived.Test.YtceedmejmmoepaaDoorRb3
import Derived.Deep.RegionHeld3
namespace Go.Proofs.YtceedmejmmoepaaDoor
open Go.RowKit Go.ChangeShapes Go.WideShapes Go.Deep
set_option linter.unusedVariables false
set_option linter.unusedSimpArgs false

theorem spN_lt (S k : Nat) (hS : 2 ≤ S) : spN S k < S := by
  have hlt : k % (2 * (S - 1)) < 2 * (S - 1) := Nat.mod_lt _ (by omega)
  unfold spN
  split <;> omega
end Go.Proofs.YtceedmejmmoepaaDoor
