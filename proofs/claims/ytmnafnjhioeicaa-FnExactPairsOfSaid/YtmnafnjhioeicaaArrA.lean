/- Arrangements: which numbers are one; the model's function and the program's. -/
import Derived.Test.YtmnafnjhioeicaaArr0
import Derived.Test.YtmnafnjhioeicaaBarsS
import Derived.Test.YtmnafnjhioeicaaIntS
namespace Go.Proofs.Ytmnafnjhioeicaa
open Go.RowKit
set_option linter.unusedVariables false
set_option linter.unusedSimpArgs false

theorem contains_drop {xs : List Int} {k : Nat} {x y : Int} (hx : xs[k]? = some y) : (xs.drop k).contains x = (x == y || (xs.drop (k + 1)).contains x) := by
  obtain ⟨h1, rfl⟩ := List.getElem?_eq_some_iff.1 hx
  rw [List.drop_eq_getElem_cons h1, List.contains_cons]
theorem contains_end {xs : List Int} {k : Nat} {x : Int} (h : xs.length = k) : (xs.drop k).contains x = false := by
  rw [List.drop_of_length_le (by omega)]
  rfl

end Go.Proofs.Ytmnafnjhioeicaa
