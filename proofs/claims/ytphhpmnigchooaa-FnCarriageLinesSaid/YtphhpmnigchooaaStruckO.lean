/- Slices of Struck that the law makes, marks and looks at again. -/
import Derived.Test.YtphhpmnigchooaaStruckS
import Derived.Test.YtphhpmnigchooaaOwn0
import Derived.Test.YtphhpmnigchooaaMarkT
import Derived.Deep.RegionHeld3
namespace Go.Proofs.Ytphhpmnigchooaa
open Go.RowKit Go.ChangeShapes Go.WideShapes Go.Deep
set_option linter.unusedVariables false
set_option linter.unusedSimpArgs false

abbrev OStrucks (w : World) (base : Nat) (A : Option Addr) (n : Nat) (xs : List StruckD) : Prop := ORow 41 2 StruckD.cells w base A n xs
/-- The marks: element i of those from k on. -/
def markStruck (k : Int) : StruckD := ⟨k, markT (k + 1)⟩

theorem markStruck_cells (k : Int) : StruckD.cells (markStruck k) = [.int .i64 (k), .string (markT (k + 1))] := rfl

end Go.Proofs.Ytphhpmnigchooaa
