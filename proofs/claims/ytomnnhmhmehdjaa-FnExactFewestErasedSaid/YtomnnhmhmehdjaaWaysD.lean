/- A Ways as data: what the law's own helpers on one Ways do. -/
import Derived.Test.YtomnnhmhmehdjaaProg
import Derived.Test.YtomnnhmhmehdjaaRows0
import Derived.Below
import Derived.Lib.Hide
import Derived.WalkKit
import Derived.ProofKit
import Derived.Outline
import Derived.LoopTactic
namespace Go.Proofs.Ytomnnhmhmehdjaa
open Go.RowKit
set_option linter.unusedVariables false
set_option linter.unusedSimpArgs false

structure WaysD where
  typing : Int
  sheet : Int
  stencil : Int
  pull : Int
def WaysD.cells (p : WaysD) : List Value := [.int .i64 p.typing, .int .i64 p.sheet, .int .i64 p.stencil, .int .i64 p.pull]
/-- What a reading gives of it: numbers fit, texts fit into memory. -/
def WaysD.good (p : WaysD) : Prop := (Lit.int .i64 p.typing).wf = true ∧ (Lit.int .i64 p.sheet).wf = true ∧ (Lit.int .i64 p.stencil).wf = true ∧ (Lit.int .i64 p.pull).wf = true
def WaysD.small (p : WaysD) : Prop := True

def WaysD.eqB (a b : WaysD) : Bool := (a.typing == b.typing) && (a.sheet == b.sheet) && (a.stencil == b.stencil) && (a.pull == b.pull)
theorem WaysD.eqB_refl (a : WaysD) : a.eqB a = true := by simp [WaysD.eqB]

end Go.Proofs.Ytomnnhmhmehdjaa
