/- Tables of pairs: which are valid, and the code of a basket, pairs and an arrangement; the model's functions and the program's. -/
import Derived.Test.YtmnafnjhioeicaaArrA
import Derived.Test.YtmnafnjhioeicaaIssD
namespace Go.Proofs.Ytmnafnjhioeicaa
open Go.RowKit
set_option linter.unusedVariables false
set_option linter.unusedSimpArgs false

end Go.Proofs.Ytmnafnjhioeicaa
