/- A Ways as data: what the law's own helpers on one Ways do. -/
import Derived.Test.YtomnnhmhmehdjabProg
import Derived.Test.YtomnnhmhmehdjabRows0
import Derived.Below
import Derived.Lib.Hide
import Derived.WalkKit
import Derived.ProofKit
import Derived.Outline
import Derived.LoopTactic
namespace Go.Proofs.Ytomnnhmhmehdjab
open Go.RowKit
set_option linter.unusedVariables false
set_option linter.unusedSimpArgs false

structure WaysD where
  typing : Int
  sheet : Int
  stencil : Int
  pull : Int
def WaysD.cells (p : WaysD) : List Value := [.int .i64 p.typing, .int .i64 p.sheet, .int .i64 p.stencil, .int .i64 p.pull]
/-- What a reading gives of it: numbers fit, texts fit into memory. -/
def WaysD.good (p : WaysD) : Prop := (Lit.int .i64 p.typing).wf = true ∧ (Lit.int .i64 p.sheet).wf = true ∧ (Lit.int .i64 p.stencil).wf = true ∧ (Lit.int .i64 p.pull).wf = true
def WaysD.small (p : WaysD) : Prop := True

theorem toWays_any (p : WaysD) (w : World) :
    Calls Try.prog 14 #[.agg #[.int .i64 p.typing, .int .i64 p.sheet, .int .i64 p.stencil, .int .i64 p.pull]] w fun e w' => e = .returned (.agg #[.int .i64 p.typing, .int .i64 p.sheet, .int .i64 p.stencil, .int .i64 p.pull]) ∧ Below w.heap.size w w' := by
  obtain ⟨typing, sheet, stencil, pull⟩ := p
  go_enter Try.func14, Try.ntmps14
  go_wp2
  refine bodyPost_ret (v := .agg #[.int .i64 typing, .int .i64 sheet, .int .i64 stencil, .int .i64 pull]) (by simp [results, Try.results14, go_sem]) rfl ⟨rfl, ?_⟩
  exact (((Below.refl _ w).alloc (Nat.le_refl _) _).alloc (by simp) _).alloc (by simp; omega) _

def WaysD.eqB (a b : WaysD) : Bool := (a.typing == b.typing) && (a.sheet == b.sheet) && (a.stencil == b.stencil) && (a.pull == b.pull)
theorem WaysD.eqB_refl (a : WaysD) : a.eqB a = true := by simp [WaysD.eqB]

end Go.Proofs.Ytomnnhmhmehdjab
