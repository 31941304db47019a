/- Ribbons: without a program: uses by closed formulas, and the first stroke that is too pale. -/
import Derived.Test.YtceedmejmmoepaaDoorRb2
namespace Go.Proofs.YtceedmejmmoepaaDoor
open Go.RowKit Go.ChangeShapes Go.WideShapes Go.Deep
set_option linter.unusedVariables false
set_option linter.unusedSimpArgs false

/-- A number of strokes as whole turns and a rest. -/
theorem turns14 (S k : Nat) (hS : 2 ≤ S) : ∃ q j, k = q * (2 * (S - 1)) + j ∧ j < 2 * (S - 1) ∧ k % (2 * (S - 1)) = j := by
  have h1 : 0 < 2 * (S - 1) := by omega
  refine ⟨k / (2 * (S - 1)), k % (2 * (S - 1)), ?_, Nat.mod_lt _ h1, rfl⟩
  have := Nat.div_add_mod k (2 * (S - 1))
  rw [Nat.mul_comm] at this
  exact this.symm
theorem div14 {T q j r : Nat} (h : r * T ≤ j) (h2 : j < (r + 1) * T) : (q * T + j) / T = q + r := by
  have hT : 0 < T := by
    rcases Nat.eq_zero_or_pos T with h0 | h0
    · subst h0; simp at h2
    · exact h0
  rw [Nat.add_comm, Nat.add_mul_div_right _ _ hT, Nat.add_comm]
  congr 1
  exact Nat.div_eq_of_lt_le h h2
theorem useN_there (S p n : Nat) (hS : 2 ≤ S) (hp : p < S) :
    useN S p n = (n + 2 * (S - 1) - 1 - p) / (2 * (S - 1)) + (if 0 < p ∧ p < S - 1 then (n + p - 1) / (2 * (S - 1)) else 0) := by
  obtain ⟨q, j, rfl, hj, _⟩ := turns14 S n hS
  rw [useN_many, useN_turn S p hS hp, useN_one S p hS hp j (by omega)]
  generalize hT : 2 * (S - 1) = T at *
  have e1 : q * T + j + T - 1 - p = q * T + (j + T - 1 - p) := by omega
  have d1 : (q * T + j + T - 1 - p) / T = q + (if p < j then 1 else 0) := by
    rw [e1]
    split
    · exact div14 (by omega) (by omega)
    · exact div14 (by omega) (by omega)
  rw [d1]
  by_cases hm : 0 < p ∧ p < S - 1
  · have e2 : q * T + j + p - 1 = q * T + (j + p - 1) := by omega
    have d2 : (q * T + j + p - 1) / T = q + (if T - p < j then 1 else 0) := by
      rw [e2]
      split
      · exact div14 (by omega) (by omega)
      · exact div14 (by omega) (by omega)
    rw [if_pos hm, if_pos hm, d2]
    simp only [hm.1, hm.2, true_and]
    omega
  · rw [if_neg hm, if_neg hm]
    have : ¬ (0 < p ∧ p < S - 1 ∧ T - p < j) := fun h => hm ⟨h.1, h.2.1⟩
    rw [if_neg this]
    omega
/-- How many earlier strokes used a stroke's spot. -/
theorem useN_at (S q j : Nat) (hS : 2 ≤ S) (hj : j < 2 * (S - 1)) :
    useN S (spN S (q * (2 * (S - 1)) + j)) (q * (2 * (S - 1)) + j) = if j = 0 ∨ j = S - 1 then q else if j < S then 2 * q else 2 * q + 1 := by
  have hm : (q * (2 * (S - 1)) + j) % (2 * (S - 1)) = j := by rw [Nat.mul_add_mod_self_right]; exact Nat.mod_eq_of_lt hj
  have hp : spN S (q * (2 * (S - 1)) + j) = if S ≤ j then 2 * (S - 1) - j else j := by rw [spN, hm]
  have hlt : (if S ≤ j then 2 * (S - 1) - j else j) < S := by split <;> omega
  rw [hp, useN_many, useN_turn S _ hS hlt, useN_one S _ hS hlt j (by omega)]
  by_cases h1 : j = 0 ∨ j = S - 1
  · have h2 : ¬ S ≤ j := by omega
    rw [if_pos h1, if_neg h2, if_neg (by omega), if_neg (by omega), if_neg (by omega)]
    omega
  · rw [if_neg h1]
    by_cases h2 : S ≤ j
    · rw [if_pos h2, if_neg (by omega : ¬ j < S), if_pos (by omega), if_pos (by omega), if_neg (by omega)]
      omega
    · rw [if_neg h2, if_pos (by omega : j < S), if_pos (by omega), if_neg (by omega), if_neg (by omega)]
      omega
/-- The first stroke whose spot has been used so often before. -/
def firstF (S u : Nat) : Nat := if S = 2 then u * (2 * (S - 1)) else u * (S - 1) + 1
theorem first_lt (S u k : Nat) (hS : 2 ≤ S) (hu : 1 ≤ u) (h : k < firstF S u) : useN S (spN S k) k < u := by
  obtain ⟨q, j, rfl, hj, _⟩ := turns14 S k hS
  rw [useN_at S q j hS hj]
  unfold firstF at h
  by_cases h2 : S = 2
  · subst h2
    simp at h hj ⊢
    split <;> omega
  · rw [if_neg h2] at h
    generalize hR : S - 1 = R at *
    have e : q * (2 * R) = 2 * q * R := by rw [Nat.mul_comm 2 R, ← Nat.mul_assoc, Nat.mul_comm (q * R) 2, Nat.mul_assoc]
    rw [e] at h
    have hle : ∀ a, u ≤ a → u * R ≤ a * R := fun a ha => Nat.mul_le_mul_right R ha
    by_cases h3 : j = 0 ∨ j = R
    · rw [if_pos h3]
      refine Nat.lt_of_not_le fun hc => ?_
      have := hle (2 * q) (by omega)
      have h5 : u * R + R ≤ 2 * q * R := by
        rcases Nat.lt_or_ge u (2 * q) with h6 | h6
        · have := Nat.mul_le_mul_right R (Nat.succ_le_of_lt h6)
          rw [Nat.succ_mul] at this; exact this
        · omega
      omega
    · rw [if_neg h3]
      by_cases h4 : j < S
      · rw [if_pos h4]
        refine Nat.lt_of_not_le fun hc => ?_
        have := hle (2 * q) hc
        omega
      · rw [if_neg h4]
        refine Nat.lt_of_not_le fun hc => ?_
        have := hle (2 * q + 1) hc
        rw [Nat.add_mul, Nat.one_mul] at this
        omega
theorem first_ge (S u : Nat) (hS : 2 ≤ S) (hu : 1 ≤ u) : u ≤ useN S (spN S (firstF S u)) (firstF S u) := by
  unfold firstF
  by_cases h2 : S = 2
  · subst h2
    rw [if_pos rfl]
    have := useN_at 2 u 0 (by omega) (by omega)
    rw [Nat.add_zero] at this
    rw [this, if_pos (.inl rfl)]
    omega
  · rw [if_neg h2]
    obtain ⟨m, hm⟩ : ∃ m, u = 2 * m ∨ u = 2 * m + 1 := ⟨u / 2, by omega⟩
    rcases hm with hm | hm
    · have e : u * (S - 1) + 1 = m * (2 * (S - 1)) + 1 := by
        rw [hm, Nat.mul_comm 2 m, Nat.mul_assoc]
      rw [e, useN_at S m 1 hS (by omega), if_neg (by omega), if_pos (by omega)]
      omega
    · have e : u * (S - 1) + 1 = m * (2 * (S - 1)) + S := by
        rw [hm, Nat.add_mul, Nat.mul_comm 2 m, Nat.mul_assoc]
        omega
      rw [e, useN_at S m S hS (by omega), if_neg (by omega), if_neg (by omega)]
      omega
end Go.Proofs.YtceedmejmmoepaaDoor
