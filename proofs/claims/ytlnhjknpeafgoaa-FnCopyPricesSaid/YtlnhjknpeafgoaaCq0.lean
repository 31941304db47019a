/- Copies: without a program: the program's loop over copies; the first cheapest of all ways. -/
import Derived.Test.YtlnhjknpeafgoaaCp3
namespace Go.Proofs.Ytlnhjknpeafgoaa
open Go.RowKit Go.ChangeShapes Go.WideShapes Go.Deep
set_option linter.unusedVariables false
set_option linter.unusedSimpArgs false

theorem good_step {c : CarbonD} (h : caB c = true) {k : Int} (h2 : k < 12) : c.least ≤ max 0 (c.force - k * c.loss) ↔ k < goodV c := by
  obtain ⟨⟨a, b⟩, ⟨d, e⟩, f, g⟩ := caB_iff.1 h
  have hq : (c.force - c.least).tdiv c.loss = (c.force - c.least) / c.loss := Int.tdiv_eq_ediv_of_nonneg (by omega)
  have hle : k ≤ (c.force - c.least) / c.loss ↔ k * c.loss ≤ c.force - c.least := Int.le_ediv_iff_mul_le (by omega)
  unfold goodV
  rw [hq]
  generalize (c.force - c.least) / c.loss = q at *
  generalize k * c.loss = m at *
  omega
theorem mul_in13 {c : CarbonD} (h : caB c = true) {k : Int} (h0 : 0 ≤ k) (h1 : k ≤ 12) : 0 ≤ k * c.loss ∧ k * c.loss ≤ 12000 := by
  obtain ⟨_, ⟨d, e⟩, _⟩ := caB_iff.1 h
  have := mul_in (a := k) (b := c.loss) (A := 12) (B := 1000) h0 h1 (by omega) e
  exact ⟨this.1, by omega⟩
end Go.Proofs.Ytlnhjknpeafgoaa
