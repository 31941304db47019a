/- Ribbons: the cheapest one: pure, and the model's BestRibbon. -/
import Derived.Test.YtceedmejmmoepaaDoorRb9
import Derived.Test.YtceedmejmmoepaaDoorRibbonS
namespace Go.Proofs.YtceedmejmmoepaaDoor
open Go.RowKit Go.ChangeShapes Go.WideShapes Go.Deep
set_option linter.unusedVariables false
set_option linter.unusedSimpArgs false

def priB (p : Int) : Bool := inR p 0 100000
/-- The best of the first ribbons, and its cost: -1 where there is none. -/
def bsF (xs : List RibbonD) (ps : List Int) (n l : Int) : Nat → Int × Int
  | 0 => (-1, 0)
  | k + 1 => match xs[k]?, ps[k]? with
    | some r, some p => if r.ink < l then bsF xs ps n l k else if (bsF xs ps n l k).1 < 0 ∨ p * manyV r n l < (bsF xs ps n l k).2 then ((k : Int), p * manyV r n l) else bsF xs ps n l k
    | _, _ => bsF xs ps n l k
def brC (xs : List RibbonD) (ps : List Int) (n l : Int) : Int :=
  if xs.all rbB = true then (if ps.all priB = true ∧ xs.length ≤ 20 ∧ ps.length = xs.length ∧ inR n 0 100000 = true ∧ inR l 1 1000 = true then 0 else 2) else 1
def brR (xs : List RibbonD) (ps : List Int) (n l : Int) : Int × Int × Int :=
  if brC xs ps n l = 0 then (if (bsF xs ps n l xs.length).1 < 0 then (0, 0, 3) else ((bsF xs ps n l xs.length).1, (bsF xs ps n l xs.length).2, 0)) else (0, 0, brC xs ps n l)
theorem bsF_range (xs : List RibbonD) (ps : List Int) (n l : Int) : ∀ k, -1 ≤ (bsF xs ps n l k).1 ∧ (bsF xs ps n l k).1 < (k : Int)
  | 0 => by simp [bsF]
  | k + 1 => by
    have h := bsF_range xs ps n l k
    rw [bsF]
    split
    · split
      · omega
      · split
        · simp only; omega
        · omega
    · omega
theorem manyV_range {r : RibbonD} {n l : Int} (hok : rbB r = true) (h0 : 0 ≤ n) (h1 : n ≤ 100000) (hl : l ≤ r.ink) : 0 ≤ manyV r n l ∧ manyV r n l ≤ 200001 := by
  obtain ⟨u0, u1⟩ := untilN_range hok hl
  unfold manyV
  obtain ⟨N, rfl⟩ : ∃ N : Nat, n = (N : Int) := ⟨n.toNat, by omega⟩
  generalize untilN r l = E at *
  rw [show (N : Int) + (E : Int) - 1 = ((N + E - 1 : Nat) : Int) by omega, ← Int.ofNat_tdiv]
  have := Nat.div_le_self (N + E - 1) E
  generalize (N + E - 1) / E = Z at *
  omega
theorem price_range {r : RibbonD} {p n l : Int} (hok : rbB r = true) (hp : priB p = true) (h0 : 0 ≤ n) (h1 : n ≤ 100000) (hl : l ≤ r.ink) : 0 ≤ p * manyV r n l ∧ p * manyV r n l ≤ 100000 * 200001 := by
  obtain ⟨a, b⟩ := manyV_range hok h0 h1 hl
  obtain ⟨c, d⟩ := inR_iff.1 hp
  exact ⟨Int.mul_nonneg c a, Int.mul_le_mul d b a (by omega)⟩
theorem bsF_cost (xs : List RibbonD) (ps : List Int) (n l : Int) (hx : xs.all rbB = true) (hp : ps.all priB = true) (h0 : 0 ≤ n) (h1 : n ≤ 100000) : ∀ k, 0 ≤ (bsF xs ps n l k).2 ∧ (bsF xs ps n l k).2 ≤ 100000 * 200001
  | 0 => by simp [bsF]
  | k + 1 => by
    have h := bsF_cost xs ps n l hx hp h0 h1 k
    rw [bsF]
    split
    · rename_i r p hr hpp
      split
      · exact h
      · rename_i hl
        split
        · exact price_range (List.all_eq_true.1 hx r (List.mem_of_getElem? hr)) (List.all_eq_true.1 hp p (List.mem_of_getElem? hpp)) h0 h1 (by omega)
        · exact h
    · exact h
end Go.Proofs.YtceedmejmmoepaaDoor
