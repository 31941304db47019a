/- A Basket as data: what the law's own helpers on one Basket do. -/
import Derived.Test.YtomnnhmhmehdjaaProg
import Derived.Test.YtomnnhmhmehdjaaRows0
import Derived.Below
import Derived.Lib.Hide
import Derived.WalkKit
import Derived.ProofKit
import Derived.Outline
import Derived.LoopTactic
namespace Go.Proofs.Ytomnnhmhmehdjaa
open Go.RowKit
set_option linter.unusedVariables false
set_option linter.unusedSimpArgs false

structure BasketD where
  bars : Int
  rise : Int
  fall : Int
  clear : Int
  near : Int
def BasketD.cells (p : BasketD) : List Value := [.int .i64 p.bars, .int .i64 p.rise, .int .i64 p.fall, .int .i64 p.clear, .int .i64 p.near]
/-- What a reading gives of it: numbers fit, texts fit into memory. -/
def BasketD.good (p : BasketD) : Prop := (Lit.int .i64 p.bars).wf = true ∧ (Lit.int .i64 p.rise).wf = true ∧ (Lit.int .i64 p.fall).wf = true ∧ (Lit.int .i64 p.clear).wf = true ∧ (Lit.int .i64 p.near).wf = true
def BasketD.small (p : BasketD) : Prop := True

def BasketD.eqB (a b : BasketD) : Bool := (a.bars == b.bars) && (a.rise == b.rise) && (a.fall == b.fall) && (a.clear == b.clear) && (a.near == b.near)
theorem BasketD.eqB_refl (a : BasketD) : a.eqB a = true := by simp [BasketD.eqB]

end Go.Proofs.Ytomnnhmhmehdjaa
