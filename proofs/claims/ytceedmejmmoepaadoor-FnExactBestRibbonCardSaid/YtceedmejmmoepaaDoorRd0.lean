/- Ribbons: without a program: the first stroke that is too pale, by a closed formula. -/
import Derived.Test.YtceedmejmmoepaaDoorRc0
import Derived.Test.YtceedmejmmoepaaDoorRb9
namespace Go.Proofs.YtceedmejmmoepaaDoor
open Go.RowKit Go.ChangeShapes Go.WideShapes Go.Deep
set_option linter.unusedVariables false
set_option linter.unusedSimpArgs false

theorem untilF_first (r : RibbonD) (least : Int) (F : Nat) (h1 : ∀ j, j < F → ¬ shadeV r j < least) (h2 : shadeV r F < least) : ∀ m k, k ≤ F → untilF r least m k = if F < k + m then F else k + m
  | 0, k, hk => by
    rw [untilF, if_neg (by omega)]; rfl
  | m + 1, k, hk => by
    rw [untilF]
    by_cases h : k = F
    · subst h
      rw [if_pos h2, if_pos (by omega)]
    · rw [if_neg (h1 k (by omega)), untilF_first r least F h1 h2 m (k + 1) (by omega)]
      by_cases h3 : F < k + 1 + m
      · rw [if_pos h3, if_pos (by omega)]
      · rw [if_neg h3, if_neg (by omega)]; omega
/-- After how many uses a spot is too pale. -/
def paleU (r : RibbonD) (least : Int) : Nat := (r.ink - least).toNat / r.takes.toNat + 1
theorem pale_iff (r : RibbonD) (least : Int) (hK : 1 ≤ r.takes) (h0 : 1 ≤ least) (h1 : least ≤ r.ink) (k : Nat) : shadeV r k < least ↔ paleU r least ≤ useN r.spots.toNat (spN r.spots.toNat k) k := by
  unfold shadeV paleU
  generalize useN r.spots.toNat (spN r.spots.toNat k) k = n
  obtain ⟨K, hK2⟩ : ∃ K : Nat, r.takes = (K : Int) := ⟨r.takes.toNat, by omega⟩
  obtain ⟨D, hD⟩ : ∃ D : Nat, r.ink - least = (D : Int) := ⟨(r.ink - least).toNat, by omega⟩
  have hI : r.ink = least + (D : Int) := by omega
  rw [hK2, hD, hI, Int.toNat_natCast, Int.toNat_natCast]
  have hKp : 0 < K := by omega
  rw [Nat.succ_le_iff, Nat.div_lt_iff_lt_mul hKp]
  have e : (K : Int) * (n : Int) = ((n * K : Nat) : Int) := by rw [Nat.mul_comm]; simp
  rw [e]
  omega
theorem until_first (r : RibbonD) (least : Int) (hS : 2 ≤ r.spots) (hK : 1 ≤ r.takes) (h0 : 1 ≤ least) (h1 : least ≤ r.ink) :
    untilN r least = if firstF r.spots.toNat (paleU r least) ≤ 100000 then firstF r.spots.toNat (paleU r least) else 100001 := by
  have hu : 1 ≤ paleU r least := Nat.le_add_left 1 _
  have hS2 : 2 ≤ r.spots.toNat := by omega
  rw [untilN, untilF_first r least (firstF r.spots.toNat (paleU r least)) (fun j hj h => by
    have := first_lt r.spots.toNat (paleU r least) j hS2 hu hj
    have := (pale_iff r least hK h0 h1 j).1 h
    omega) ((pale_iff r least hK h0 h1 _).2 (first_ge _ _ hS2 hu)) 100001 0 (Nat.zero_le _)]
  by_cases h : firstF r.spots.toNat (paleU r least) ≤ 100000
  · rw [if_pos (by omega), if_pos h]
  · rw [if_neg (by omega), if_neg h]
end Go.Proofs.YtceedmejmmoepaaDoor
