/- Copies: the model's strengths, typings and prices. -/
import Derived.Test.YtomnnhmhmehdjaaCp1
import Derived.Test.YtomnnhmhmehdjaaOwn8
namespace Go.Proofs.Ytomnnhmhmehdjaa
open Go.RowKit Go.ChangeShapes Go.WideShapes Go.Deep
set_option linter.unusedVariables false
set_option linter.unusedSimpArgs false

structure Box3 (g : Nat) (a b c : Value) (w : World) : Prop where
  c0 : w.cell? ⟨g, 0, none⟩ = some a
  c1 : w.cell? ⟨g, 1, none⟩ = some b
  c2 : w.cell? ⟨g, 2, none⟩ = some c
theorem Box3.new (w : World) (T : TypeId) (a b c : Value) : Box3 w.heap.size a b c (w.alloc (.cells #[a, b, c] T)) := ⟨cell_new (by simp) rfl, cell_new (by simp) rfl, cell_new (by simp) rfl⟩
theorem Box3.step {g : Nat} {a b c : Value} {w w' : World} (h : Box3 g a b c w) (hb : Below w.heap.size w w') : Box3 g a b c w' := ⟨cell_step h.c0 hb, cell_step h.c1 hb, cell_step h.c2 hb⟩
structure Box4 (g : Nat) (a b c d : Value) (w : World) : Prop where
  c0 : w.cell? ⟨g, 0, none⟩ = some a
  c1 : w.cell? ⟨g, 1, none⟩ = some b
  c2 : w.cell? ⟨g, 2, none⟩ = some c
  c3 : w.cell? ⟨g, 3, none⟩ = some d
theorem Box4.new (w : World) (T : TypeId) (a b c d : Value) : Box4 w.heap.size a b c d (w.alloc (.cells #[a, b, c, d] T)) := ⟨cell_new (by simp) rfl, cell_new (by simp) rfl, cell_new (by simp) rfl, cell_new (by simp) rfl⟩
theorem Box4.step {g : Nat} {a b c d : Value} {w w' : World} (h : Box4 g a b c d w) (hb : Below w.heap.size w w') : Box4 g a b c d w' := ⟨cell_step h.c0 hb, cell_step h.c1 hb, cell_step h.c2 hb, cell_step h.c3 hb⟩
end Go.Proofs.Ytomnnhmhmehdjaa
