/- A Stroke as data: what the law's own helpers on one Stroke do. -/
import Derived.Test.YtomnnhmhmehdjaaProg
import Derived.Test.YtomnnhmhmehdjaaRows0
import Derived.Below
import Derived.Lib.Hide
import Derived.WalkKit
import Derived.ProofKit
import Derived.Outline
import Derived.LoopTactic
namespace Go.Proofs.Ytomnnhmhmehdjaa
open Go.RowKit
set_option linter.unusedVariables false
set_option linter.unusedSimpArgs false

structure StrokeD where
  bar : Int
  tick : Int
def StrokeD.cells (p : StrokeD) : List Value := [.int .i64 p.bar, .int .i64 p.tick]
/-- What a reading gives of it: numbers fit, texts fit into memory. -/
def StrokeD.good (p : StrokeD) : Prop := (Lit.int .i64 p.bar).wf = true ∧ (Lit.int .i64 p.tick).wf = true
def StrokeD.small (p : StrokeD) : Prop := True

def StrokeD.eqB (a b : StrokeD) : Bool := (a.bar == b.bar) && (a.tick == b.tick)
theorem StrokeD.eqB_refl (a : StrokeD) : a.eqB a = true := by simp [StrokeD.eqB]

end Go.Proofs.Ytomnnhmhmehdjaa
