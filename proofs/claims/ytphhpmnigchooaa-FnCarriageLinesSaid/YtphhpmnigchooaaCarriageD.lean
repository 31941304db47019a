/- A Carriage as data: what the law's own helpers on one Carriage do. -/
import Derived.Test.YtphhpmnigchooaaProg
import Derived.Test.YtphhpmnigchooaaRows0
import Derived.Below
import Derived.Lib.Hide
import Derived.WalkKit
import Derived.ProofKit
import Derived.Outline
import Derived.LoopTactic
namespace Go.Proofs.Ytphhpmnigchooaa
open Go.RowKit
set_option linter.unusedVariables false
set_option linter.unusedSimpArgs false

structure CarriageD where
  left : Int
  right : Int
  bell : Int
def CarriageD.cells (p : CarriageD) : List Value := [.int .i64 p.left, .int .i64 p.right, .int .i64 p.bell]
/-- What a reading gives of it: numbers fit, texts fit into memory. -/
def CarriageD.good (p : CarriageD) : Prop := (Lit.int .i64 p.left).wf = true ∧ (Lit.int .i64 p.right).wf = true ∧ (Lit.int .i64 p.bell).wf = true
def CarriageD.small (p : CarriageD) : Prop := True

def CarriageD.eqB (a b : CarriageD) : Bool := (a.left == b.left) && (a.right == b.right) && (a.bell == b.bell)
theorem CarriageD.eqB_refl (a : CarriageD) : a.eqB a = true := by simp [CarriageD.eqB]

end Go.Proofs.Ytphhpmnigchooaa
