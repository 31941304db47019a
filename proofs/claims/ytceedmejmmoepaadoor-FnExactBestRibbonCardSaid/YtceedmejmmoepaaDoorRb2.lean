/- Ribbons: without a program: how often a spot has been used. -/
import Derived.Test.YtceedmejmmoepaaDoorRb0
namespace Go.Proofs.YtceedmejmmoepaaDoor
open Go.RowKit Go.ChangeShapes Go.WideShapes Go.Deep
set_option linter.unusedVariables false
set_option linter.unusedSimpArgs false

/-- The spot of a stroke on a ribbon of so many spots, in natural numbers. -/
def spN (S k : Nat) : Nat := if S ≤ k % (2 * (S - 1)) then 2 * (S - 1) - k % (2 * (S - 1)) else k % (2 * (S - 1))
/-- How often a spot has been used in so many strokes. -/
def useN (S p : Nat) : Nat → Nat
  | 0 => 0
  | k + 1 => useN S p k + if spN S k = p then 1 else 0
theorem spotV_nat {r : RibbonD} (h : rbB r = true) (k : Nat) : spotV r (k : Int) = (spN r.spots.toNat k : Int) := by
  obtain ⟨⟨c, d⟩, _⟩ := rbB_iff.1 h
  obtain ⟨S, hS⟩ : ∃ S : Nat, r.spots = (S : Int) := ⟨r.spots.toNat, by omega⟩
  have hT : turnV r = ((2 * (S - 1) : Nat) : Int) := by unfold turnV; omega
  have hm : (k : Int).tmod ((2 * (S - 1) : Nat) : Int) = ((k % (2 * (S - 1)) : Nat) : Int) := (Int.ofNat_tmod k (2 * (S - 1))).symm
  have hlt : k % (2 * (S - 1)) < 2 * (S - 1) := Nat.mod_lt _ (by omega)
  unfold spotV spN
  rw [hT, hm, hS, Int.toNat_natCast]
  by_cases h2 : S ≤ k % (2 * (S - 1))
  · rw [if_pos h2, if_pos (by omega)]; omega
  · rw [if_neg h2, if_neg (by omega)]
theorem spN_shift (S k : Nat) : spN S (2 * (S - 1) + k) = spN S k := by
  unfold spN
  rw [Nat.add_mod_left]
theorem useN_shift (S p : Nat) : ∀ k, useN S p (2 * (S - 1) + k) = useN S p (2 * (S - 1)) + useN S p k
  | 0 => by simp [useN]
  | k + 1 => by
    rw [← Nat.add_assoc, useN, useN_shift S p k, spN_shift, useN]
    omega
theorem useN_many (S p : Nat) : ∀ n k, useN S p (n * (2 * (S - 1)) + k) = n * useN S p (2 * (S - 1)) + useN S p k
  | 0, k => by simp
  | n + 1, k => by
    have e : (n + 1) * (2 * (S - 1)) + k = 2 * (S - 1) + (n * (2 * (S - 1)) + k) := by rw [Nat.add_mul, Nat.one_mul]; omega
    rw [e, useN_shift, useN_many S p n k, Nat.add_mul, Nat.one_mul]
    omega
theorem useN_one (S p : Nat) (hS : 2 ≤ S) (hp : p < S) : ∀ j, j ≤ 2 * (S - 1) → useN S p j = (if p < j then 1 else 0) + (if 0 < p ∧ p < S - 1 ∧ 2 * (S - 1) - p < j then 1 else 0)
  | 0, _ => by
    rw [if_neg (by omega), if_neg (by omega)]; rfl
  | j + 1, hj => by
    have hm : j % (2 * (S - 1)) = j := Nat.mod_eq_of_lt (by omega)
    rw [useN, useN_one S p hS hp j (by omega), spN, hm]
    repeat' split
    all_goals omega
/-- In a whole turn the ends are used once, the others twice. -/
theorem useN_turn (S p : Nat) (hS : 2 ≤ S) (hp : p < S) : useN S p (2 * (S - 1)) = if 0 < p ∧ p < S - 1 then 2 else 1 := by
  rw [useN_one S p hS hp _ (Nat.le_refl _)]
  repeat' split
  all_goals omega
theorem useN_le (S p : Nat) : ∀ k, useN S p k ≤ k
  | 0 => Nat.le_refl _
  | k + 1 => by
    have := useN_le S p k
    rw [useN]
    split <;> omega
/-- What a stroke leaves. -/
def shadeV (r : RibbonD) (n : Nat) : Int := max 0 (r.ink - r.takes * (useN r.spots.toNat (spN r.spots.toNat n) n : Int))
/-- How many strokes from the first one on are dark enough, of at most so many more. -/
def untilF (r : RibbonD) (least : Int) : Nat → Nat → Nat
  | 0, k => k
  | m + 1, k => if shadeV r k < least then k else untilF r least m (k + 1)
def untilN (r : RibbonD) (least : Int) : Nat := untilF r least 100001 0
theorem untilF_le (r : RibbonD) (least : Int) : ∀ m k, k ≤ untilF r least m k ∧ untilF r least m k ≤ k + m
  | 0, k => ⟨Nat.le_refl _, Nat.le_refl _⟩
  | m + 1, k => by
    have := untilF_le r least m (k + 1)
    rw [untilF]
    split <;> omega
def saR14 (r : RibbonD) (n : Int) : Int × Int := if rcC r n = 0 then (shadeV r n.toNat, 0) else (0, rcC r n)
end Go.Proofs.YtceedmejmmoepaaDoor
