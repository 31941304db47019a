/- Ribbons: the model's uses of a spot. -/
import Derived.Test.YtceedmejmmoepaaDoorRb1
import Derived.Test.YtceedmejmmoepaaDoorRb2
namespace Go.Proofs.YtceedmejmmoepaaDoor
open Go.RowKit Go.ChangeShapes Go.WideShapes Go.Deep
set_option linter.unusedVariables false
set_option linter.unusedSimpArgs false

theorem useN_start (S p n : Nat) (hS : 2 ≤ S) (hp : p < S) : useN S p (n / (2 * (S - 1)) * (2 * (S - 1))) = if 0 < p ∧ p < S - 1 then 2 * (n / (2 * (S - 1))) else n / (2 * (S - 1)) := by
  have h := useN_many S p (n / (2 * (S - 1))) 0
  rw [Nat.add_zero, useN_turn S p hS hp, useN, Nat.add_zero] at h
  rw [h]
  split <;> omega
theorem and_gt {a b : Int} {v : Bool} (h : (decide (0 < a) && decide (a < b)) = v) : (if decide (0 < a) = true then decide (a < b) else false) = v := by
  subst h
  cases decide (0 < a) <;> rfl
end Go.Proofs.YtceedmejmmoepaaDoor
