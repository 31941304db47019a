/- A Place as data: what the law's own helpers on one Place do. -/
import Derived.Test.YtmnafnjhioeicaaProg
import Derived.Test.YtmnafnjhioeicaaRows0
import Derived.Below
import Derived.Lib.Hide
import Derived.WalkKit
import Derived.ProofKit
import Derived.Outline
import Derived.LoopTactic
namespace Go.Proofs.Ytmnafnjhioeicaa
open Go.RowKit
set_option linter.unusedVariables false
set_option linter.unusedSimpArgs false

structure PlaceD where
  finger : Int
  row : Int
  effort : Int
def PlaceD.cells (p : PlaceD) : List Value := [.int .i64 p.finger, .int .i64 p.row, .int .i64 p.effort]
/-- What a reading gives of it: numbers fit, texts fit into memory. -/
def PlaceD.good (p : PlaceD) : Prop := (Lit.int .i64 p.finger).wf = true ∧ (Lit.int .i64 p.row).wf = true ∧ (Lit.int .i64 p.effort).wf = true
def PlaceD.small (p : PlaceD) : Prop := True

theorem toPlace_any (p : PlaceD) (w : World) :
    Calls Try.prog 38 #[.agg #[.int .i64 p.finger, .int .i64 p.row, .int .i64 p.effort]] w fun e w' => e = .returned (.agg #[.int .i64 p.finger, .int .i64 p.row, .int .i64 p.effort]) ∧ Below w.heap.size w w' := by
  obtain ⟨finger, row, effort⟩ := p
  go_enter Try.func38, Try.ntmps38
  go_wp2
  refine bodyPost_ret (v := .agg #[.int .i64 finger, .int .i64 row, .int .i64 effort]) (by simp [results, Try.results38, go_sem]) rfl ⟨rfl, ?_⟩
  exact (((Below.refl _ w).alloc (Nat.le_refl _) _).alloc (by simp) _).alloc (by simp; omega) _

def PlaceD.eqB (a b : PlaceD) : Bool := (a.finger == b.finger) && (a.row == b.row) && (a.effort == b.effort)
theorem PlaceD.eqB_refl (a : PlaceD) : a.eqB a = true := by simp [PlaceD.eqB]
theorem eqPlace_is {a b : PlaceD} {v : Bool} (h : a.eqB b = v) (w : World) :
    Calls Try.prog 43 #[.agg #[.int .i64 a.finger, .int .i64 a.row, .int .i64 a.effort], .agg #[.int .i64 b.finger, .int .i64 b.row, .int .i64 b.effort]] w fun e w' => e = .returned (.bool v) ∧ Below w.heap.size w w' := by
  subst h
  obtain ⟨a0, a1, a2⟩ := a
  obtain ⟨b0, b1, b2⟩ := b
  by_cases h0 : (a0 == b0) = true
  · by_cases h1 : (a1 == b1) = true
    · by_cases h2 : (a2 == b2) = true
      · go_enter Try.func43, Try.ntmps43
        go_wp2
        go_ret
        exact ⟨by simp [PlaceD.eqB, h0, h1, h2], ((Below.refl _ w).alloc (Nat.le_refl _) _).alloc (by simp) _⟩
      · have g2 : (a2 == b2) = false := by simpa using h2
        go_enter Try.func43, Try.ntmps43
        go_wp2
        go_ret
        exact ⟨by simp [PlaceD.eqB, h0, h1, h2], ((Below.refl _ w).alloc (Nat.le_refl _) _).alloc (by simp) _⟩
    · have g1 : (a1 == b1) = false := by simpa using h1
      go_enter Try.func43, Try.ntmps43
      go_wp2
      go_ret
      exact ⟨by simp [PlaceD.eqB, h0, h1], ((Below.refl _ w).alloc (Nat.le_refl _) _).alloc (by simp) _⟩
  · have g0 : (a0 == b0) = false := by simpa using h0
    go_enter Try.func43, Try.ntmps43
    go_wp2
    go_ret
    exact ⟨by simp [PlaceD.eqB, h0], ((Below.refl _ w).alloc (Nat.le_refl _) _).alloc (by simp) _⟩

end Go.Proofs.Ytmnafnjhioeicaa
