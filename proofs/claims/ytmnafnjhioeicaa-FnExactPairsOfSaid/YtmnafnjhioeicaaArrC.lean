/- ValidPairs: the model's function and the program's. -/
import Derived.Test.YtmnafnjhioeicaaArrB
import Derived.Test.YtmnafnjhioeicaaIssO
namespace Go.Proofs.Ytmnafnjhioeicaa
open Go.RowKit
set_option linter.unusedVariables false
set_option linter.unusedSimpArgs false

end Go.Proofs.Ytmnafnjhioeicaa
