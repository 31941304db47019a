/- A press as data: what the law's own helpers on one press do. -/
import Derived.Test.YtndodlfmjdgpcaaProg
import Derived.Below
import Derived.Lib.Hide
import Derived.WalkKit
import Derived.ProofKit
import Derived.Outline
import Derived.LoopTactic
namespace Go.Proofs.Ytndodlfmjdgpcaa
open Go.RowKit
set_option linter.unusedVariables false
set_option linter.unusedSimpArgs false

structure PressD where
  key : Int
  shift : Bool
def PressD.cells (p : PressD) : List Value := [.int .i64 p.key, .bool p.shift]
def PressD.val (p : PressD) : Value := .agg #[.int .i64 p.key, .bool p.shift]

theorem toPress_any (a : Int) (s : Bool) (w : World) :
    Calls Try.prog 92 #[.agg #[.int .i64 a, .bool s]] w fun e w' => e = .returned (.agg #[.int .i64 a, .bool s]) ∧ Below w.heap.size w w' := by
  go_enter Try.func92, Try.ntmps92
  go_wp2
  refine bodyPost_ret (v := .agg #[.int .i64 a, .bool s]) (by simp [results, Try.results92, go_sem]) rfl ⟨rfl, ?_⟩
  exact (((Below.refl _ w).alloc (Nat.le_refl _) _).alloc (by simp) _).alloc (by simp; omega) _

def PressD.eqB (a b : PressD) : Bool := a.key == b.key && a.shift == b.shift
theorem PressD.eqB_iff {a b : PressD} : a.eqB b = true ↔ a = b := by
  obtain ⟨_, _⟩ := a
  obtain ⟨_, _⟩ := b
  simp [PressD.eqB]

theorem eqPress_any (a b : PressD) (w : World) :
    Calls Try.prog 89 #[.agg #[.int .i64 a.key, .bool a.shift], .agg #[.int .i64 b.key, .bool b.shift]] w fun e w' => e = .returned (.bool (a.eqB b)) ∧ Below w.heap.size w w' := by
  obtain ⟨ak, as_⟩ := a
  obtain ⟨bk, bs⟩ := b
  by_cases h1 : (ak == bk) = true
  · by_cases h2 : (as_ == bs) = true
    · go_enter Try.func89, Try.ntmps89
      go_wp2
      go_ret
      exact ⟨by simp [PressD.eqB, h1, h2], ((Below.refl _ w).alloc (Nat.le_refl _) _).alloc (by simp) _⟩
    · have h2' : (as_ == bs) = false := by simpa using h2
      go_enter Try.func89, Try.ntmps89
      go_wp2
      go_ret
      exact ⟨by simp [PressD.eqB, h1, h2], ((Below.refl _ w).alloc (Nat.le_refl _) _).alloc (by simp) _⟩
  · have h1' : (ak == bk) = false := by simpa using h1
    go_enter Try.func89, Try.ntmps89
    go_wp2
    go_ret
    exact ⟨by simp [PressD.eqB, h1], ((Below.refl _ w).alloc (Nat.le_refl _) _).alloc (by simp) _⟩

theorem eqPress_is {a b : PressD} {v : Bool} (h : a.eqB b = v) (w : World) :
    Calls Try.prog 89 #[.agg #[.int .i64 a.key, .bool a.shift], .agg #[.int .i64 b.key, .bool b.shift]] w fun e w' => e = .returned (.bool v) ∧ Below w.heap.size w w' := h ▸ eqPress_any a b w

end Go.Proofs.Ytndodlfmjdgpcaa
