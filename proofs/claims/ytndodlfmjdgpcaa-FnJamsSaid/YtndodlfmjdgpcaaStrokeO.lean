/- Slices of Stroke that the law makes, marks and looks at again. -/
import Derived.Test.YtndodlfmjdgpcaaStrokeS
import Derived.Test.YtndodlfmjdgpcaaOwn0
namespace Go.Proofs.Ytndodlfmjdgpcaa
open Go.RowKit Go.ChangeShapes Go.WideShapes Go.Deep
set_option linter.unusedVariables false
set_option linter.unusedSimpArgs false

abbrev OStrokes (w : World) (base : Nat) (A : Option Addr) (n : Nat) (xs : List StrokeD) : Prop := ORow 39 2 StrokeD.cells w base A n xs
/-- The marks: element i of those from k on. -/
def markStroke (k : Int) : StrokeD := ⟨k, k + 1⟩

theorem markStroke_cells (k : Int) : StrokeD.cells (markStroke k) = [.int .i64 (k), .int .i64 (k + 1)] := rfl
end Go.Proofs.Ytndodlfmjdgpcaa
