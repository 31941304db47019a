/- Moves of the carriage: the model's MovesBetween, PlanBetween and RowPlan. -/
import Derived.Test.YtijelimpkcnbjaaTm3
import Derived.Lib.AppendStr
namespace Go.Proofs.Ytijelimpkcnbjaa
open Go.RowKit Go.ChangeShapes Go.WideShapes Go.Deep
set_option linter.unusedVariables false
set_option linter.unusedSimpArgs false

/-- A row. -/
def rowB (s : ByteArray) : Bool := (decide ((s.size : Int) ≤ 30) && bytesIn 32 126 s) && (decide (s.size = 0) || !decide ((bAt s (s.size - 1)).toNat = 32))
theorem rowB_size {s : ByteArray} (h : rowB s = true) : s.size ≤ 30 := by simp only [rowB, Bool.and_eq_true, decide_eq_true_eq] at h; omega
theorem isEmpty11 (s : ByteArray) (h : ¬ s.size = 0) : s.toList.isEmpty = false := by
  rw [ByteArray.toList_eq]
  have : s.data.toList.length = s.size := rfl
  cases h1 : s.data.toList with
  | nil => rw [h1] at this; exact absurd this.symm h
  | cons a r => rfl
/-- The plan of the first bytes of a row: its text, the column behind it, its moves. -/
noncomputable def plS (ps : List Int) (s : ByteArray) : Nat → List UInt8 × Nat × Nat
  | 0 => ([], 0, 0)
  | k + 1 => if (bAt s k).toNat = 32 then plS ps s k else ((plS ps s k).1 ++ wayP ps k (plS ps s k).2.1 ++ [39, bAt s k], k + 1, (plS ps s k).2.2 + (wayP ps k (plS ps s k).2.1).length)
noncomputable def rpR (ps : List Int) (s : ByteArray) : ByteArray × Int := if stB ps = true then (if rowB s = true then (⟨(plS ps s s.size).1.toArray⟩, 0) else (ByteArray.empty, 2)) else (ByteArray.empty, 1)
theorem plS_at (ps : List Int) (s : ByteArray) : ∀ k, (plS ps s k).2.1 ≤ k
  | 0 => Nat.le_refl _
  | k + 1 => by
    have := plS_at ps s k
    rw [plS]
    split
    · omega
    · exact Nat.le_refl _
theorem wayP_len {ps : List Int} {to : Nat} (hto : to ≤ 30) {D : Nat → Int} (h : IsFar ps to D) {a : Nat} (ha : a ≤ 30) : ((wayP ps to a).length : Int) = farP ps to a ∧ (wayP ps to a).length ≤ 30 := by
  have h1 := wayX_len h ha
  rw [way_farP hto h ha] at h1
  have h2 := far_30 hto h.zero h.step ha
  exact ⟨by rw [← h.eq ha]; exact h1, by omega⟩
end Go.Proofs.Ytijelimpkcnbjaa
