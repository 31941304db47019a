/- A Act as data: what the law's own helpers on one Act do. -/
import Derived.Test.YtiopeheockajaaaDoorProg
import Derived.Test.YtiopeheockajaaaDoorRows0
import Derived.Below
import Derived.Lib.Hide
import Derived.WalkKit
import Derived.ProofKit
import Derived.Outline
import Derived.LoopTactic
namespace Go.Proofs.YtiopeheockajaaaDoor
open Go.RowKit
set_option linter.unusedVariables false
set_option linter.unusedSimpArgs false

structure ActD where
  kind : Int
  letter : ByteArray
def ActD.cells (p : ActD) : List Value := [.int .i64 p.kind, .string p.letter]
/-- What a reading gives of it: numbers fit, texts fit into memory. -/
def ActD.good (p : ActD) : Prop := (Lit.int .i64 p.kind).wf = true ∧ p.letter.size ≤ maxLen
def ActD.small (p : ActD) : Prop := p.letter.size ≤ 1048576

def ActD.eqB (a b : ActD) : Bool := (a.kind == b.kind) && (a.letter.toList == b.letter.toList)
theorem ActD.eqB_refl (a : ActD) : a.eqB a = true := by simp [ActD.eqB]
theorem eqAct_is {a b : ActD} {v : Bool} (h : a.eqB b = v) (w : World) :
    Calls Tryd.prog 33 #[.agg #[.int .i64 a.kind, .string a.letter], .agg #[.int .i64 b.kind, .string b.letter]] w fun e w' => e = .returned (.bool v) ∧ Below w.heap.size w w' := by
  subst h
  obtain ⟨a0, a1⟩ := a
  obtain ⟨b0, b1⟩ := b
  by_cases h0 : (a0 == b0) = true
  · by_cases h1 : (a1.toList == b1.toList) = true
    · go_enter Tryd.func33, Tryd.ntmps33
      go_wp2
      go_ret
      exact ⟨by simp [ActD.eqB, h0, h1], ((Below.refl _ w).alloc (Nat.le_refl _) _).alloc (by simp) _⟩
    · have g1 : (a1.toList == b1.toList) = false := by simpa using h1
      go_enter Tryd.func33, Tryd.ntmps33
      go_wp2
      go_ret
      exact ⟨by simp [ActD.eqB, h0, h1], ((Below.refl _ w).alloc (Nat.le_refl _) _).alloc (by simp) _⟩
  · have g0 : (a0 == b0) = false := by simpa using h0
    go_enter Tryd.func33, Tryd.ntmps33
    go_wp2
    go_ret
    exact ⟨by simp [ActD.eqB, h0], ((Below.refl _ w).alloc (Nat.le_refl _) _).alloc (by simp) _⟩

/-- What is left of l. -/
def szActI (l : Int) (x : ActD) : Int := if l - (x.letter.size : Int) < 0 then -1 else l - (x.letter.size : Int)
theorem szActI_le (l : Int) (x : ActD) (h : 0 ≤ l) : -1 ≤ szActI l x ∧ szActI l x ≤ l := by
  unfold szActI
  repeat' split
  all_goals omega
theorem szActI_small (l : Int) (x : ActD) (h : l ≤ 1048576) (h0 : 0 ≤ szActI l x) : x.small := by
  unfold szActI at h0
  unfold ActD.small
  repeat' split at h0
  all_goals omega
end Go.Proofs.YtiopeheockajaaaDoor
