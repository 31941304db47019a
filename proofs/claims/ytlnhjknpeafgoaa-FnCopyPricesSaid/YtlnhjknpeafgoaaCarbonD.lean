/- A Carbon as data: what the law's own helpers on one Carbon do. -/
import Derived.Test.YtlnhjknpeafgoaaProg
import Derived.Test.YtlnhjknpeafgoaaRows0
import Derived.Below
import Derived.Lib.Hide
import Derived.WalkKit
import Derived.ProofKit
import Derived.Outline
import Derived.LoopTactic
namespace Go.Proofs.Ytlnhjknpeafgoaa
open Go.RowKit
set_option linter.unusedVariables false
set_option linter.unusedSimpArgs false

structure CarbonD where
  force : Int
  loss : Int
  least : Int
def CarbonD.cells (p : CarbonD) : List Value := [.int .i64 p.force, .int .i64 p.loss, .int .i64 p.least]
/-- What a reading gives of it: numbers fit, texts fit into memory. -/
def CarbonD.good (p : CarbonD) : Prop := (Lit.int .i64 p.force).wf = true ∧ (Lit.int .i64 p.loss).wf = true ∧ (Lit.int .i64 p.least).wf = true
def CarbonD.small (p : CarbonD) : Prop := True

def CarbonD.eqB (a b : CarbonD) : Bool := (a.force == b.force) && (a.loss == b.loss) && (a.least == b.least)
theorem CarbonD.eqB_refl (a : CarbonD) : a.eqB a = true := by simp [CarbonD.eqB]

end Go.Proofs.Ytlnhjknpeafgoaa
