/- Texts and numbers that are drawn out of lists. -/
import Derived.Test.YtlnhjknpeafgoaaSrc
import Derived.Test.YtlnhjknpeafgoaaStrO
import Derived.Test.YtlnhjknpeafgoaaIntS
namespace Go.Proofs.Ytlnhjknpeafgoaa
open Go.RowKit
set_option linter.unusedVariables false
set_option linter.unusedSimpArgs false

end Go.Proofs.Ytlnhjknpeafgoaa
