/- Copies: the model's cheapest way, and from where on a stencil is cheaper. -/
import Derived.Test.YtlnhjknpeafgoaaCp3
namespace Go.Proofs.Ytlnhjknpeafgoaa
open Go.RowKit Go.ChangeShapes Go.WideShapes Go.Deep
set_option linter.unusedVariables false
set_option linter.unusedSimpArgs false

theorem ret13_4 {p : Int × Int × Int × Int} {a b c d : Int} (h : p = (a, b, c, d)) : Ending.returned (.tuple #[.int .i64 a, .int .i64 b, .int .i64 c, .int .i64 d]) = .returned (.tuple #[.int .i64 p.1, .int .i64 p.2.1, .int .i64 p.2.2.1, .int .i64 p.2.2.2]) := by rw [h]
/-- Best and least, behind so many rounds. -/
def bestAt (c : CarbonD) (x : WaysD) (N : Int) : Nat → Int × Int
  | 0 => (-1, 0)
  | k + 1 => (((cheapV c x N k).1 : Int), (cheapV c x N k).2)
theorem bestAt_first (c : CarbonD) (x : WaysD) (N : Int) : bestAt c x N 1 = (0, priceV c x N 0) := rfl
theorem bestAt_next {c : CarbonD} {x : WaysD} {N : Int} {k : Nat} (h : 0 < k) : bestAt c x N (k + 1) = if priceV c x N k < (bestAt c x N k).2 then ((k : Int), priceV c x N k) else bestAt c x N k := by
  obtain ⟨j, rfl⟩ : ∃ j, k = j + 1 := ⟨k - 1, by omega⟩
  rw [bestAt, bestAt, cheapV]
  split <;> rfl
theorem sten_step {c : CarbonD} {x : WaysD} {f n : Nat} : stenF c x (f + 1) n = if steV x (n : Int) < carV c x (n : Int) then some n else stenF c x f (n + 1) := rfl
end Go.Proofs.Ytlnhjknpeafgoaa
