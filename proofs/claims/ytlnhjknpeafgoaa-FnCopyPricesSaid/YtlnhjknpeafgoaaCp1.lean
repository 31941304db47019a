/- Copies: the model's functions on carbon and ways. -/
import Derived.Test.YtlnhjknpeafgoaaCp0
namespace Go.Proofs.Ytlnhjknpeafgoaa
open Go.RowKit Go.ChangeShapes Go.WideShapes Go.Deep
set_option linter.unusedVariables false
set_option linter.unusedSimpArgs false

end Go.Proofs.Ytlnhjknpeafgoaa
