/- Bytes of a text: the model's functions and the program's. (Out of Let0 and Afl0, for seats without their imports.) -/
import Derived.Test.YtceedmejmmoepaaDoorRows0
import Derived.Test.YtceedmejmmoepaaDoorOwn0
import Derived.Test.YtceedmejmmoepaaDoorOpen0
import Derived.Test.YtceedmejmmoepaaDoorProg
import Derived.WalkKit
import Derived.ProofKit
import Derived.Outline
import Derived.LoopTactic
import Derived.IntWalk
import Derived.Deep.QuietTactic
import Derived.BigQuiet
namespace Go.Proofs.YtceedmejmmoepaaDoor
open Go.RowKit Go.ChangeShapes Go.WideShapes Go.Deep
set_option linter.unusedVariables false
set_option linter.unusedSimpArgs false

/-- The bytes of a text from k on lie between lo and hi. -/
def bytesIn (lo hi : Nat) (s : ByteArray) : Bool := s.data.toList.all fun c => decide (lo ≤ c.toNat) && decide (c.toNat ≤ hi)
theorem bytesIn_no {lo hi : Nat} {s : ByteArray} {k : Nat} (hk : k < s.size) (h : ¬ (lo ≤ (s[k]'hk).toNat ∧ (s[k]'hk).toNat ≤ hi)) : bytesIn lo hi s = false := by
  unfold bytesIn
  rw [List.all_eq_false]
  refine ⟨s.data.toList[k]'hk, List.getElem_mem _, ?_⟩
  intro h2
  simp only [Bool.and_eq_true, decide_eq_true_eq] at h2
  exact h h2
theorem bytesIn_yes {lo hi : Nat} {s : ByteArray} (h : ∀ k (hk : k < s.size), lo ≤ (s[k]'hk).toNat ∧ (s[k]'hk).toNat ≤ hi) : bytesIn lo hi s = true := by
  unfold bytesIn
  rw [List.all_eq_true]
  intro x hx
  obtain ⟨i, hi', rfl⟩ := List.getElem_of_mem hx
  have := h i hi'
  simp only [Bool.and_eq_true, decide_eq_true_eq]
  exact this
theorem byte_of {s : ByteArray} {k : Nat} (hk : k < s.size) : s.data.toList[k]? = some (s[k]'hk) := by
  have hk' : k < s.data.size := hk
  rw [Array.getElem?_toList, Array.getElem?_eq_getElem hk']
  rfl
end Go.Proofs.YtceedmejmmoepaaDoor
