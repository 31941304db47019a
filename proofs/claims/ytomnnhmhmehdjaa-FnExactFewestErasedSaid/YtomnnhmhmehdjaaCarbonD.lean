/- A Carbon as data: what the law's own helpers on one Carbon do. -/
import Derived.Test.YtomnnhmhmehdjaaProg
import Derived.Test.YtomnnhmhmehdjaaRows0
import Derived.Below
import Derived.Lib.Hide
import Derived.WalkKit
import Derived.ProofKit
import Derived.Outline
import Derived.LoopTactic
namespace Go.Proofs.Ytomnnhmhmehdjaa
open Go.RowKit
set_option linter.unusedVariables false
set_option linter.unusedSimpArgs false

structure CarbonD where
  force : Int
  loss : Int
  least : Int
def CarbonD.cells (p : CarbonD) : List Value := [.int .i64 p.force, .int .i64 p.loss, .int .i64 p.least]
/-- What a reading gives of it: numbers fit, texts fit into memory. -/
def CarbonD.good (p : CarbonD) : Prop := (Lit.int .i64 p.force).wf = true ∧ (Lit.int .i64 p.loss).wf = true ∧ (Lit.int .i64 p.least).wf = true
def CarbonD.small (p : CarbonD) : Prop := True

theorem toCarbon_any (p : CarbonD) (w : World) :
    Calls Try.prog 51 #[.agg #[.int .i64 p.force, .int .i64 p.loss, .int .i64 p.least]] w fun e w' => e = .returned (.agg #[.int .i64 p.force, .int .i64 p.loss, .int .i64 p.least]) ∧ Below w.heap.size w w' := by
  obtain ⟨force, loss, least⟩ := p
  go_enter Try.func51, Try.ntmps51
  go_wp2
  refine bodyPost_ret (v := .agg #[.int .i64 force, .int .i64 loss, .int .i64 least]) (by simp [results, Try.results51, go_sem]) rfl ⟨rfl, ?_⟩
  exact (((Below.refl _ w).alloc (Nat.le_refl _) _).alloc (by simp) _).alloc (by simp; omega) _

def CarbonD.eqB (a b : CarbonD) : Bool := (a.force == b.force) && (a.loss == b.loss) && (a.least == b.least)
theorem CarbonD.eqB_refl (a : CarbonD) : a.eqB a = true := by simp [CarbonD.eqB]

end Go.Proofs.Ytomnnhmhmehdjaa
