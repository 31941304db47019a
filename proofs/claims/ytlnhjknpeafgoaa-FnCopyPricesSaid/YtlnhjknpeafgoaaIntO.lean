/- Slices of Int64 that the law makes, marks and looks at again. -/
import Derived.Test.YtlnhjknpeafgoaaIntS
import Derived.Test.YtlnhjknpeafgoaaOwn0
namespace Go.Proofs.Ytlnhjknpeafgoaa
open Go.RowKit Go.ChangeShapes Go.WideShapes Go.Deep
set_option linter.unusedVariables false
set_option linter.unusedSimpArgs false

abbrev OInts (w : World) (base : Nat) (A : Option Addr) (n : Nat) (xs : List Int) : Prop := ORow 2 1 intC w base A n xs
/-- The marks: element i of those from k on. -/
def markInt (k : Int) : Int := k

theorem markInt_cells (k : Int) : intC (markInt k) = [.int .i64 (k)] := rfl
end Go.Proofs.Ytlnhjknpeafgoaa
