/- Bars: whether a basket has a bar, how long two bars wait, whether two strokes jam: the model's functions and the program's. -/
import Derived.Test.YtgiphckiiapcaaaBarsA
import Derived.Deep.RegionHeld3
import Derived.IntWalk
namespace Go.Proofs.Ytgiphckiiapcaaa
open Go.RowKit
set_option linter.unusedVariables false
set_option linter.unusedSimpArgs false

theorem waitI_same (b : BasketD) (a : Int) : waitI b a a = b.rise + b.fall := by simp [waitI]
theorem waitI_other {b : BasketD} {a c : Int} (h : a ≠ c) : waitI b a c = b.clear + max 0 (b.near - max (a - c) (-(a - c))) := by
  unfold waitI
  rw [if_neg h]
  have : c - a = -(a - c) := by omega
  rw [this]

end Go.Proofs.Ytgiphckiiapcaaa
