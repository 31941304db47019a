/- The earliest strokes of bars: the model's function and the program's; each builds its list by append. -/
import Derived.Test.YtndodlfmjdgpcaaFast0
namespace Go.Proofs.Ytndodlfmjdgpcaa
open Go.RowKit
set_option linter.unusedVariables false
set_option linter.unusedSimpArgs false

theorem owns_below {w w' : World} {base : Nat} {e : TypeId} {size n : Nat} {v : Value} {xs : List Value} (h : w.ownsRow base e size v n xs) (hb : Below w.heap.size w w') : w'.ownsRow base e size v n xs :=
  h.kept (grown_below hb none) (by cases v.ownBlock <;> simp)
theorem owns_mono {w : World} {base base' : Nat} {e : TypeId} {size n : Nat} {v : Value} {xs : List Value} (h : w.ownsRow base e size v n xs) (hb : base' ≤ base) : w.ownsRow base' e size v n xs := by
  refine ⟨h.1, ?_⟩
  rcases h.2 with h | ⟨g, cap, cur, hv, hg, rest⟩
  · exact .inl h
  · exact .inr ⟨g, cap, cur, hv, Nat.le_trans hb hg, rest⟩
theorem BoxB.grown {w w' : World} {N : Nat} {b : BasketD} {row : Option Nat} (h : BoxB w N b) (hg : w.grownBy w' row) (hr : ∀ k, row = some k → N < k) : BoxB w' N b := by
  obtain ⟨c0, c1, c2, c3, c4⟩ := h
  have hne : some N ≠ row := fun e => by have := hr N e.symm; omega
  exact ⟨hg.cell c0 hne, hg.cell c1 hne, hg.cell c2 hne, hg.cell c3 hne, hg.cell c4 hne⟩
theorem stroke_cells (s : StrokeD) : s.cells.length = 2 := rfl
theorem flat_snoc (l : List StrokeD) (s : StrokeD) : (l ++ [s]).flatMap StrokeD.cells = l.flatMap StrokeD.cells ++ [.int .i64 s.bar, .int .i64 s.tick] := by simp [StrokeD.cells]
/-- What is owned reads as a slice of strokes. -/
theorem owns_read {w : World} {base n : Nat} {v : Value} {l : List StrokeD} (hn : l.length = n) (h : w.ownsRow base 39 2 v n (l.flatMap StrokeD.cells)) : ∃ A c, v = .slice A n c ∧ OStrokes w base A n l := by
  subst hn
  exact ORow.of_owns stroke_cells h

theorem ints_at {w wo : World} {N : Nat} {A : Option Addr} {n : Nat} {xs : List Int} (h : Ints w A n xs) (hN : w.heap.size = N) (hb : Below N w wo) : Ints wo A n xs := by
  subst hN
  exact h.below hb
end Go.Proofs.Ytndodlfmjdgpcaa
