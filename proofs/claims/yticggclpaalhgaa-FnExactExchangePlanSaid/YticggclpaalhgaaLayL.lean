/- Cells beside a row that is written. No program is named. -/
import Derived.Test.YticggclpaalhgaaOwn0
namespace Go.Proofs.Yticggclpaalhgaa
open Go.RowKit
theorem cell_grown_ne {w w' : World} {B : Option Addr} {a : Addr} {v : Value} (h : w.cell? a = some v) (hg : w.grownBy w' (B.map (·.block))) (hB : ∀ q, B = some q → a.block ≠ q.block) : w'.cell? a = some v :=
  hg.cell h (by
    cases B with
    | none => simp
    | some q => have h2 := hB q rfl; simp; exact h2)
end Go.Proofs.Yticggclpaalhgaa
