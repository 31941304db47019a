/- A Ribbon as data: what the law's own helpers on one Ribbon do. -/
import Derived.Test.YtceedmejmmoepaaProg
import Derived.Test.YtceedmejmmoepaaRows0
import Derived.Below
import Derived.Lib.Hide
import Derived.WalkKit
import Derived.ProofKit
import Derived.Outline
import Derived.LoopTactic
namespace Go.Proofs.Ytceedmejmmoepaa
open Go.RowKit
set_option linter.unusedVariables false
set_option linter.unusedSimpArgs false

structure RibbonD where
  spots : Int
  ink : Int
  takes : Int
def RibbonD.cells (p : RibbonD) : List Value := [.int .i64 p.spots, .int .i64 p.ink, .int .i64 p.takes]
/-- What a reading gives of it: numbers fit, texts fit into memory. -/
def RibbonD.good (p : RibbonD) : Prop := (Lit.int .i64 p.spots).wf = true ∧ (Lit.int .i64 p.ink).wf = true ∧ (Lit.int .i64 p.takes).wf = true
def RibbonD.small (p : RibbonD) : Prop := True

theorem toRibbon_any (p : RibbonD) (w : World) :
    Calls Try.prog 12 #[.agg #[.int .i64 p.spots, .int .i64 p.ink, .int .i64 p.takes]] w fun e w' => e = .returned (.agg #[.int .i64 p.spots, .int .i64 p.ink, .int .i64 p.takes]) ∧ Below w.heap.size w w' := by
  obtain ⟨spots, ink, takes⟩ := p
  go_enter Try.func12, Try.ntmps12
  go_wp2
  refine bodyPost_ret (v := .agg #[.int .i64 spots, .int .i64 ink, .int .i64 takes]) (by simp [results, Try.results12, go_sem]) rfl ⟨rfl, ?_⟩
  exact (((Below.refl _ w).alloc (Nat.le_refl _) _).alloc (by simp) _).alloc (by simp; omega) _

def RibbonD.eqB (a b : RibbonD) : Bool := (a.spots == b.spots) && (a.ink == b.ink) && (a.takes == b.takes)
theorem RibbonD.eqB_refl (a : RibbonD) : a.eqB a = true := by simp [RibbonD.eqB]

end Go.Proofs.Ytceedmejmmoepaa
