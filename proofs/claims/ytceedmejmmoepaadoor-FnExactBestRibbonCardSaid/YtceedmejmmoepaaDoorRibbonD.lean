/- A Ribbon as data: what the law's own helpers on one Ribbon do. -/
import Derived.Test.YtceedmejmmoepaaDoorProg
import Derived.Test.YtceedmejmmoepaaDoorRows0
import Derived.Below
import Derived.Lib.Hide
import Derived.WalkKit
import Derived.ProofKit
import Derived.Outline
import Derived.LoopTactic
namespace Go.Proofs.YtceedmejmmoepaaDoor
open Go.RowKit
set_option linter.unusedVariables false
set_option linter.unusedSimpArgs false

structure RibbonD where
  spots : Int
  ink : Int
  takes : Int
def RibbonD.cells (p : RibbonD) : List Value := [.int .i64 p.spots, .int .i64 p.ink, .int .i64 p.takes]
/-- What a reading gives of it: numbers fit, texts fit into memory. -/
def RibbonD.good (p : RibbonD) : Prop := (Lit.int .i64 p.spots).wf = true ∧ (Lit.int .i64 p.ink).wf = true ∧ (Lit.int .i64 p.takes).wf = true
def RibbonD.small (p : RibbonD) : Prop := True

theorem toRibbon_any (p : RibbonD) (w : World) :
    Calls Tryd.prog 8 #[.agg #[.int .i64 p.spots, .int .i64 p.ink, .int .i64 p.takes]] w fun e w' => e = .returned (.agg #[.int .i64 p.spots, .int .i64 p.ink, .int .i64 p.takes]) ∧ Below w.heap.size w w' := by
  obtain ⟨spots, ink, takes⟩ := p
  go_enter Tryd.func8, Tryd.ntmps8
  go_wp2
  refine bodyPost_ret (v := .agg #[.int .i64 spots, .int .i64 ink, .int .i64 takes]) (by simp [results, Tryd.results8, go_sem]) rfl ⟨rfl, ?_⟩
  exact (((Below.refl _ w).alloc (Nat.le_refl _) _).alloc (by simp) _).alloc (by simp; omega) _

def RibbonD.eqB (a b : RibbonD) : Bool := (a.spots == b.spots) && (a.ink == b.ink) && (a.takes == b.takes)
theorem RibbonD.eqB_refl (a : RibbonD) : a.eqB a = true := by simp [RibbonD.eqB]
theorem eqRibbon_is {a b : RibbonD} {v : Bool} (h : a.eqB b = v) (w : World) :
    Calls Tryd.prog 40 #[.agg #[.int .i64 a.spots, .int .i64 a.ink, .int .i64 a.takes], .agg #[.int .i64 b.spots, .int .i64 b.ink, .int .i64 b.takes]] w fun e w' => e = .returned (.bool v) ∧ Below w.heap.size w w' := by
  subst h
  obtain ⟨a0, a1, a2⟩ := a
  obtain ⟨b0, b1, b2⟩ := b
  by_cases h0 : (a0 == b0) = true
  · by_cases h1 : (a1 == b1) = true
    · by_cases h2 : (a2 == b2) = true
      · go_enter Tryd.func40, Tryd.ntmps40
        go_wp2
        go_ret
        exact ⟨by simp [RibbonD.eqB, h0, h1, h2], ((Below.refl _ w).alloc (Nat.le_refl _) _).alloc (by simp) _⟩
      · have g2 : (a2 == b2) = false := by simpa using h2
        go_enter Tryd.func40, Tryd.ntmps40
        go_wp2
        go_ret
        exact ⟨by simp [RibbonD.eqB, h0, h1, h2], ((Below.refl _ w).alloc (Nat.le_refl _) _).alloc (by simp) _⟩
    · have g1 : (a1 == b1) = false := by simpa using h1
      go_enter Tryd.func40, Tryd.ntmps40
      go_wp2
      go_ret
      exact ⟨by simp [RibbonD.eqB, h0, h1], ((Below.refl _ w).alloc (Nat.le_refl _) _).alloc (by simp) _⟩
  · have g0 : (a0 == b0) = false := by simpa using h0
    go_enter Tryd.func40, Tryd.ntmps40
    go_wp2
    go_ret
    exact ⟨by simp [RibbonD.eqB, h0], ((Below.refl _ w).alloc (Nat.le_refl _) _).alloc (by simp) _⟩

end Go.Proofs.YtceedmejmmoepaaDoor
