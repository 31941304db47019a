/- Ribbons: without a program. -/
import Derived.Test.YtceedmejmmoepaaDoorRibbonD
import Derived.Test.YtceedmejmmoepaaDoorTab0
namespace Go.Proofs.YtceedmejmmoepaaDoor
open Go.RowKit Go.ChangeShapes Go.WideShapes Go.Deep
set_option linter.unusedVariables false
set_option linter.unusedSimpArgs false

def rbB (r : RibbonD) : Bool := inR r.spots 2 200 && (inR r.ink 1 1000 && inR r.takes 1 r.ink)
theorem rbB_iff {r : RibbonD} : rbB r = true ↔ (2 ≤ r.spots ∧ r.spots ≤ 200) ∧ (1 ≤ r.ink ∧ r.ink ≤ 1000) ∧ (1 ≤ r.takes ∧ r.takes ≤ r.ink) := by simp only [rbB, Bool.and_eq_true, inR_iff]
/-- The code of a ribbon and a number of strokes; of a ribbon and a shade. -/
def rcC (r : RibbonD) (n : Int) : Int := if rbB r = true then (if inR n 0 100000 = true then 0 else 2) else 1
def rlC (r : RibbonD) (n : Int) : Int := if rbB r = true then (if inR n 1 r.ink = true then 0 else 2) else 1
theorem rcC_ok {r : RibbonD} {n : Int} (h : rcC r n = 0) : rbB r = true ∧ 0 ≤ n ∧ n ≤ 100000 := by
  unfold rcC at h
  by_cases h1 : rbB r = true
  · rw [if_pos h1] at h
    by_cases h2 : inR n 0 100000 = true
    · exact ⟨h1, (inR_iff.1 h2).1, (inR_iff.1 h2).2⟩
    · rw [if_neg h2] at h; exact absurd h (by decide)
  · rw [if_neg h1] at h; exact absurd h (by decide)
theorem rlC_ok {r : RibbonD} {n : Int} (h : rlC r n = 0) : rbB r = true ∧ 1 ≤ n ∧ n ≤ r.ink := by
  unfold rlC at h
  by_cases h1 : rbB r = true
  · rw [if_pos h1] at h
    by_cases h2 : inR n 1 r.ink = true
    · exact ⟨h1, (inR_iff.1 h2).1, (inR_iff.1 h2).2⟩
    · rw [if_neg h2] at h; exact absurd h (by decide)
  · rw [if_neg h1] at h; exact absurd h (by decide)
/-- How many strokes there are from one end to the other and back; the spot of a stroke. -/
def turnV (r : RibbonD) : Int := 2 * (r.spots - 1)
def spotV (r : RibbonD) (n : Int) : Int := if r.spots ≤ n.tmod (turnV r) then turnV r - n.tmod (turnV r) else n.tmod (turnV r)
theorem turnV_range {r : RibbonD} (h : rbB r = true) : 2 ≤ turnV r ∧ turnV r ≤ 398 := by
  obtain ⟨⟨a, b⟩, _⟩ := rbB_iff.1 h
  unfold turnV
  omega
theorem atV_range {r : RibbonD} (h : rbB r = true) {n : Int} (h0 : 0 ≤ n) : 0 ≤ n.tmod (turnV r) ∧ n.tmod (turnV r) < turnV r := by
  obtain ⟨a, _⟩ := turnV_range h
  exact ⟨Int.tmod_nonneg _ h0, Int.tmod_lt_of_pos _ (by omega)⟩
theorem spotV_range {r : RibbonD} (h : rbB r = true) {n : Int} (h0 : 0 ≤ n) : 0 ≤ spotV r n ∧ spotV r n < r.spots := by
  obtain ⟨a, b⟩ := atV_range h h0
  obtain ⟨⟨c, d⟩, _⟩ := rbB_iff.1 h
  unfold spotV
  unfold turnV at *
  split <;> omega
/-- The answers. -/
def satR (r : RibbonD) (n : Int) : Int × Int := if rcC r n = 0 then (spotV r n, 0) else (0, rcC r n)
def tuR (r : RibbonD) (n : Int) : Int × Int := if rcC r n = 0 then ((max 0 (n - 1)).tdiv (r.spots - 1), 0) else (0, rcC r n)
end Go.Proofs.YtceedmejmmoepaaDoor
