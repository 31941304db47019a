/- Texts and numbers that are drawn out of lists. -/
import Derived.Test.YtijelimpkcnbjaaSrc
import Derived.Test.YtijelimpkcnbjaaStrO
import Derived.Test.YtijelimpkcnbjaaIntS
namespace Go.Proofs.Ytijelimpkcnbjaa
open Go.RowKit
set_option linter.unusedVariables false
set_option linter.unusedSimpArgs false

end Go.Proofs.Ytijelimpkcnbjaa
