/- Racks of stops: the program's search, and the next stop. -/
import Derived.Test.YtcaojaaooadeaaaTab1
namespace Go.Proofs.Ytcaojaaooadeaaa
open Go.RowKit Go.ChangeShapes Go.WideShapes Go.Deep
set_option linter.unusedVariables false
set_option linter.unusedSimpArgs false

def findT (ps : List Int) (m q : Int) : Value := if q = 0 then .tuple #[.int .i64 (lowI8 m ps : Nat), .bool (ps.contains m), .int .i64 0] else .tuple #[.int .i64 0, .bool false, .int .i64 q]
end Go.Proofs.Ytcaojaaooadeaaa
