/- Ribbons: the model's UsesOf. -/
import Derived.Test.YtceedmejmmoepaaDoorRb4
import Derived.Test.YtceedmejmmoepaaDoorByt
import Derived.Test.YtceedmejmmoepaaDoorOIn
namespace Go.Proofs.YtceedmejmmoepaaDoor
open Go.RowKit Go.ChangeShapes Go.WideShapes Go.Deep
set_option linter.unusedVariables false
set_option linter.unusedSimpArgs false

def usesL (S n k : Nat) : List Int := (List.range k).map fun p => (useN S p n : Int)
theorem usesL_next (S n k : Nat) : usesL S n (k + 1) = usesL S n k ++ [(useN S k n : Int)] := by
  rw [usesL, List.range_succ, List.map_append, usesL]; rfl
theorem usesL_len (S n k : Nat) : (usesL S n k).length = k := by simp [usesL]
def uoR (r : RibbonD) (n : Int) : List Int × Int := if rcC r n = 0 then (usesL r.spots.toNat n.toNat r.spots.toNat, 0) else ([], rcC r n)
end Go.Proofs.YtceedmejmmoepaaDoor
