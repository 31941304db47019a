/- A Stroke as data: what the law's own helpers on one Stroke do. -/
import Derived.Test.YtfhlpojaldidpaaProg
import Derived.Test.YtfhlpojaldidpaaRows0
import Derived.Below
import Derived.Lib.Hide
import Derived.WalkKit
import Derived.ProofKit
import Derived.Outline
import Derived.LoopTactic
namespace Go.Proofs.Ytfhlpojaldidpaa
open Go.RowKit
set_option linter.unusedVariables false
set_option linter.unusedSimpArgs false

structure StrokeD where
  bar : Int
  tick : Int
def StrokeD.cells (p : StrokeD) : List Value := [.int .i64 p.bar, .int .i64 p.tick]
/-- What a reading gives of it: numbers fit, texts fit into memory. -/
def StrokeD.good (p : StrokeD) : Prop := (Lit.int .i64 p.bar).wf = true ∧ (Lit.int .i64 p.tick).wf = true
def StrokeD.small (p : StrokeD) : Prop := True

theorem toStroke_any (p : StrokeD) (w : World) :
    Calls Try.prog 132 #[.agg #[.int .i64 p.bar, .int .i64 p.tick]] w fun e w' => e = .returned (.agg #[.int .i64 p.bar, .int .i64 p.tick]) ∧ Below w.heap.size w w' := by
  obtain ⟨bar, tick⟩ := p
  go_enter Try.func132, Try.ntmps132
  go_wp2
  refine bodyPost_ret (v := .agg #[.int .i64 bar, .int .i64 tick]) (by simp [results, Try.results132, go_sem]) rfl ⟨rfl, ?_⟩
  exact (((Below.refl _ w).alloc (Nat.le_refl _) _).alloc (by simp) _).alloc (by simp; omega) _

def StrokeD.eqB (a b : StrokeD) : Bool := (a.bar == b.bar) && (a.tick == b.tick)
theorem StrokeD.eqB_refl (a : StrokeD) : a.eqB a = true := by simp [StrokeD.eqB]
theorem eqStroke_is {a b : StrokeD} {v : Bool} (h : a.eqB b = v) (w : World) :
    Calls Try.prog 133 #[.agg #[.int .i64 a.bar, .int .i64 a.tick], .agg #[.int .i64 b.bar, .int .i64 b.tick]] w fun e w' => e = .returned (.bool v) ∧ Below w.heap.size w w' := by
  subst h
  obtain ⟨a0, a1⟩ := a
  obtain ⟨b0, b1⟩ := b
  by_cases h0 : (a0 == b0) = true
  · by_cases h1 : (a1 == b1) = true
    · go_enter Try.func133, Try.ntmps133
      go_wp2
      go_ret
      exact ⟨by simp [StrokeD.eqB, h0, h1], ((Below.refl _ w).alloc (Nat.le_refl _) _).alloc (by simp) _⟩
    · have g1 : (a1 == b1) = false := by simpa using h1
      go_enter Try.func133, Try.ntmps133
      go_wp2
      go_ret
      exact ⟨by simp [StrokeD.eqB, h0, h1], ((Below.refl _ w).alloc (Nat.le_refl _) _).alloc (by simp) _⟩
  · have g0 : (a0 == b0) = false := by simpa using h0
    go_enter Try.func133, Try.ntmps133
    go_wp2
    go_ret
    exact ⟨by simp [StrokeD.eqB, h0], ((Below.refl _ w).alloc (Nat.le_refl _) _).alloc (by simp) _⟩

end Go.Proofs.Ytfhlpojaldidpaa
