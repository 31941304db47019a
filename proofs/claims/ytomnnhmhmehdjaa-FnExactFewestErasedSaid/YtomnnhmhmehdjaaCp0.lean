/- Copies: without a program: carbon, ways, typings, prices, the cheapest way. -/
import Derived.Test.YtomnnhmhmehdjaaCarbonD
import Derived.Test.YtomnnhmhmehdjaaWaysD
import Derived.Test.YtomnnhmhmehdjaaTab0
namespace Go.Proofs.Ytomnnhmhmehdjaa
open Go.RowKit Go.ChangeShapes Go.WideShapes Go.Deep
set_option linter.unusedVariables false
set_option linter.unusedSimpArgs false

def caB (c : CarbonD) : Bool := inR c.force 1 1000 && (inR c.loss 1 1000 && inR c.least 1 c.force)
theorem caB_iff {c : CarbonD} : caB c = true ↔ (1 ≤ c.force ∧ c.force ≤ 1000) ∧ (1 ≤ c.loss ∧ c.loss ≤ 1000) ∧ (1 ≤ c.least ∧ c.least ≤ c.force) := by simp only [caB, Bool.and_eq_true, inR_iff]
def waB (w : WaysD) : Bool := inR w.typing 1 10000 && (inR w.sheet 1 10000 && (inR w.stencil 1 10000 && inR w.pull 1 10000))
theorem waB_iff {w : WaysD} : waB w = true ↔ (1 ≤ w.typing ∧ w.typing ≤ 10000) ∧ (1 ≤ w.sheet ∧ w.sheet ≤ 10000) ∧ (1 ≤ w.stencil ∧ w.stencil ≤ 10000) ∧ (1 ≤ w.pull ∧ w.pull ≤ 10000) := by simp only [waB, Bool.and_eq_true, inR_iff]
/-- The number of copies of a typing. -/
def goodV (c : CarbonD) : Int := min 12 ((c.force - c.least).tdiv c.loss + 1)
theorem goodV_range {c : CarbonD} (h : caB c = true) : 1 ≤ goodV c ∧ goodV c ≤ 12 ∧ 0 ≤ (c.force - c.least).tdiv c.loss ∧ (c.force - c.least).tdiv c.loss ≤ 1000 := by
  obtain ⟨⟨a, b⟩, ⟨d, e⟩, f, g⟩ := caB_iff.1 h
  have h1 : 0 ≤ (c.force - c.least).tdiv c.loss := Int.tdiv_nonneg (by omega) (by omega)
  have h2 : (c.force - c.least).tdiv c.loss ≤ c.force - c.least := by
    have := Int.tdiv_le_self (a := c.force - c.least) c.loss (by omega)
    exact this
  unfold goodV
  omega
/-- The least number of typings. -/
def typV (c : CarbonD) (n : Int) : Int := (n + goodV c - 1).tdiv (goodV c)
theorem typV_range {c : CarbonD} (h : caB c = true) {n : Int} (h0 : 0 ≤ n) (h1 : n ≤ 500) : 0 ≤ typV c n ∧ typV c n ≤ n := by
  obtain ⟨a, b, _, _⟩ := goodV_range h
  unfold typV
  generalize goodV c = g at *
  refine ⟨Int.tdiv_nonneg (by omega) (by omega), ?_⟩
  rw [Int.tdiv_eq_ediv_of_nonneg (by omega)]
  by_cases hn : n = 0
  · subst hn
    rw [Int.ediv_eq_zero_of_lt (by omega) (by omega)]
    omega
  · apply Int.le_of_lt_add_one
    apply Int.ediv_lt_of_lt_mul (by omega)
    have : n * 1 ≤ n * g := Int.mul_le_mul_of_nonneg_left (by omega) (by omega)
    rw [Int.add_mul]
    omega
def carV (c : CarbonD) (w : WaysD) (n : Int) : Int := typV c n * w.typing + (n - typV c n) * w.sheet
def steV (w : WaysD) (n : Int) : Int := if n = 0 then 0 else w.stencil + n * w.pull
theorem mul_in {a b A B : Int} (h0 : 0 ≤ a) (h1 : a ≤ A) (h2 : 0 ≤ b) (h3 : b ≤ B) : 0 ≤ a * b ∧ a * b ≤ A * B :=
  ⟨Int.mul_nonneg h0 h2, Int.mul_le_mul h1 h3 h2 (by omega)⟩
theorem carV_range {c : CarbonD} {w : WaysD} (h : caB c = true) (hw : waB w = true) {n : Int} (h0 : 0 ≤ n) (h1 : n ≤ 500) :
    (0 ≤ typV c n * w.typing ∧ typV c n * w.typing ≤ 5000000) ∧ (0 ≤ (n - typV c n) * w.sheet ∧ (n - typV c n) * w.sheet ≤ 5000000) := by
  obtain ⟨a, b⟩ := typV_range h h0 h1
  obtain ⟨⟨t0, t1⟩, ⟨s0, s1⟩, _, _⟩ := waB_iff.1 hw
  have m1 := mul_in (a := typV c n) (b := w.typing) (A := 500) (B := 10000) a (by omega) (by omega) t1
  have m2 := mul_in (a := n - typV c n) (b := w.sheet) (A := 500) (B := 10000) (by omega) (by omega) (by omega) s1
  exact ⟨⟨m1.1, by omega⟩, ⟨m2.1, by omega⟩⟩
theorem steV_range {w : WaysD} (hw : waB w = true) {n : Int} (h0 : 0 ≤ n) (h1 : n ≤ 500) : 0 ≤ n * w.pull ∧ n * w.pull ≤ 5000000 := by
  obtain ⟨_, _, _, p0, p1⟩ := waB_iff.1 hw
  have m1 := mul_in (a := n) (b := w.pull) (A := 500) (B := 10000) h0 h1 (by omega) p1
  exact ⟨m1.1, by omega⟩
def saR (c : CarbonD) (s : Int) : Int × Int := if caB c = true then (if inR s 0 11 = true then (max 0 (c.force - s * c.loss), 0) else (0, 2)) else (0, 1)
def gcR (c : CarbonD) : Int × Int := if caB c = true then (goodV c, 0) else (0, 1)
def ffR (c : CarbonD) (n : Int) : Int × Int := if caB c = true then (if inR n 1 12 = true then (if 1000 < c.least + (n - 1) * c.loss then (0, 5) else (c.least + (n - 1) * c.loss, 0)) else (0, 2)) else (0, 1)
def tfR (c : CarbonD) (n : Int) : Int × Int := if caB c = true then (if inR n 0 500 = true then (typV c n, 0) else (0, 2)) else (0, 1)
def cpC (c : CarbonD) (w : WaysD) (n : Int) : Int := if (caB c && waB w) = true then (if inR n 0 500 = true then 0 else 2) else 1
theorem cpC_ok {c : CarbonD} {w : WaysD} {n : Int} (h : cpC c w n = 0) : caB c = true ∧ waB w = true ∧ 0 ≤ n ∧ n ≤ 500 := by
  unfold cpC at h
  split at h
  · split at h
    · rename_i h1 h2
      simp only [Bool.and_eq_true] at h1
      exact ⟨h1.1, h1.2, inR_iff.1 h2⟩
    · cases h
  · cases h
def cpR (c : CarbonD) (w : WaysD) (n : Int) : Int × Int := if cpC c w n = 0 then (carV c w n, 0) else (0, cpC c w n)
def priceV (c : CarbonD) (w : WaysD) (N : Int) (k : Nat) : Int := carV c w (k : Int) + steV w (N - (k : Int))
/-- The first cheapest number of typed copies, of those up to one. -/
def cheapV (c : CarbonD) (w : WaysD) (N : Int) : Nat → Nat × Int
  | 0 => (0, priceV c w N 0)
  | k + 1 => if priceV c w N (k + 1) < (cheapV c w N k).2 then (k + 1, priceV c w N (k + 1)) else cheapV c w N k
def ccR (c : CarbonD) (w : WaysD) (N : Int) : Int × Int × Int × Int := if cpC c w N = 0 then (((cheapV c w N N.toNat).1 : Int), N - ((cheapV c w N N.toNat).1 : Int), (cheapV c w N N.toNat).2, 0) else (0, 0, 0, cpC c w N)
theorem cheapV_le (c : CarbonD) (w : WaysD) (N : Int) : ∀ k, (cheapV c w N k).1 ≤ k ∧ (cheapV c w N k).2 = priceV c w N (cheapV c w N k).1
  | 0 => ⟨Nat.le_refl _, rfl⟩
  | k + 1 => by
    have := cheapV_le c w N k
    rw [cheapV]
    split
    · exact ⟨Nat.le_refl _, rfl⟩
    · exact ⟨by omega, this.2⟩
theorem priceV_range {c : CarbonD} {w : WaysD} (h : caB c = true) (hw : waB w = true) {N : Int} (h1 : N ≤ 500) {k : Nat} (hk : (k : Int) ≤ N) : 0 ≤ priceV c w N k ∧ priceV c w N k ≤ 15010000 := by
  obtain ⟨⟨a, b⟩, d, e⟩ := carV_range h hw (n := (k : Int)) (by omega) (by omega)
  obtain ⟨f, g⟩ := steV_range hw (n := N - (k : Int)) (by omega) (by omega)
  obtain ⟨_, _, ⟨s0, s1⟩, _⟩ := waB_iff.1 hw
  unfold priceV carV steV
  split
  · constructor <;> omega
  · constructor <;> omega
/-- The first number of copies, of those from one on, for which a stencil is cheaper. -/
def stenF (c : CarbonD) (w : WaysD) : Nat → Nat → Option Nat
  | 0, _ => none
  | f + 1, n => if steV w (n : Int) < carV c w (n : Int) then some n else stenF c w f (n + 1)
def sfR13 (c : CarbonD) (w : WaysD) : Int × Int := if (caB c && waB w) = true then (match stenF c w 500 1 with | some n => ((n : Int), 0) | none => (0, 3)) else (0, 1)
end Go.Proofs.Ytomnnhmhmehdjaa
