/- Moves of the carriage: the model's moves of a page. -/
import Derived.Test.YtijelimpkcnbjaaTm5
import Derived.Test.YtijelimpkcnbjaaTm8
namespace Go.Proofs.Ytijelimpkcnbjaa
open Go.RowKit Go.ChangeShapes Go.WideShapes Go.Deep
set_option linter.unusedVariables false
set_option linter.unusedSimpArgs false

theorem Try.infoIntsl : (Try.prog.info? 26).map (fun i => (i.zero, i.size, i.bytes)) = some (some (.slice none 0 0), 1, 24) := by kernel_rfl
/-- Distances that are kept, by their columns. -/
def Memo (ps : List Int) (G : Nat) (w : World) : Prop :=
  ∃ cs : Array Value, w.heap[G]? = some (.cells cs 26) ∧ cs.size = 31 ∧ ∀ i, i < 31 → cs[i]? = some (.slice none 0 0) ∨ ∃ g L, cs[i]? = some (.slice (some ⟨g, 0, none⟩) 31 31) ∧ G < g ∧ Ints w (some ⟨g, 0, none⟩) 31 L ∧ IsFar ps i (fun a => L.getD a 0)
theorem Memo.below {ps : List Int} {G : Nat} {w w' : World} (h : Memo ps G w) (hb : Below w.heap.size w w') : Memo ps G w' := by
  obtain ⟨cs, h1, h2, h3⟩ := h
  refine ⟨cs, (hb.block _ (own_lt h1)).trans h1, h2, fun i hi => ?_⟩
  rcases h3 i hi with h | ⟨g, L, a, b, c, d⟩
  · exact Or.inl h
  · exact Or.inr ⟨g, L, a, b, c.below hb, d⟩
theorem Memo.lt {ps : List Int} {G : Nat} {w : World} (h : Memo ps G w) : G < w.heap.size := by
  obtain ⟨cs, h1, _⟩ := h
  exact own_lt h1
theorem Memo.new {ps : List Int} (w : World) : Memo ps w.heap.size (w.alloc (.cells (madeCells #[.slice none 0 0] 31) 26)) := by
  refine ⟨_, heap_alloc_new _ _, size_madeCells _ _, fun i hi => Or.inl ?_⟩
  have hr := World.rowIs_made w (.slice none 0 0) 31 26
  have hc := hr.cell (i := i) hi
  have : (w.alloc (.cells (madeCells #[.slice none 0 0] 31) 26)).cell? ⟨w.heap.size, i, none⟩ = (madeCells #[.slice none 0 0] 31)[i]? := by
    unfold World.cell?
    rw [show (w.alloc (.cells (madeCells #[.slice none 0 0] 31) 26)).heap[(⟨w.heap.size, i, none⟩ : Addr).block]? = _ from heap_alloc_new _ _]
    rfl
  rw [← this]
  exact hc
theorem Memo.put {ps : List Int} {G i g : Nat} {L : List Int} {w : World} (h : Memo ps G w) (hi : i < 31) (hg : G < g) (hL : Ints w (some ⟨g, 0, none⟩) 31 L) (hF : IsFar ps i (fun a => L.getD a 0)) :
    Memo ps G (w.setCell ⟨G, i, none⟩ (.slice (some ⟨g, 0, none⟩) 31 31)) := by
  obtain ⟨cs, h1, h2, h3⟩ := h
  have hk : ∀ {g' : Nat} {L' : List Int}, G < g' → Ints w (some ⟨g', 0, none⟩) 31 L' → Ints (w.setCell ⟨G, i, none⟩ (.slice (some ⟨g, 0, none⟩) 31 31)) (some ⟨g', 0, none⟩) 31 L' := fun hg' hL' =>
    SRow.kept (B := some ⟨G, 0, none⟩) hL' grown_set (fun p q hp hq => by cases hp; cases hq; simp only; omega)
  refine ⟨cs.setIfInBounds i (.slice (some ⟨g, 0, none⟩) 31 31), heap_setCell_same w G i _ _ _ h1, by simp [h2], fun j hj => ?_⟩
  rw [Array.getElem?_setIfInBounds]
  by_cases hij : i = j
  · subst hij
    rw [if_pos rfl, if_pos (by omega)]
    exact Or.inr ⟨g, L, rfl, hg, hk hg hL, hF⟩
  · rw [if_neg hij]
    rcases h3 j hj with h | ⟨g', L', a, b, c, d⟩
    · exact Or.inl h
    · exact Or.inr ⟨g', L', a, b, hk b c, d⟩
theorem far_self (ps : List Int) (i : Nat) : farP ps i i = 0 := by
  unfold farP
  split
  · rename_i h
    exact h.choose_spec.zero
  · rfl
theorem way_self (ps : List Int) (i : Nat) : wayP ps i i = [] := by
  rw [wayP, wayL, if_pos (by rw [far_self]; omega)]
noncomputable def rowMv (ps : List Int) (s : ByteArray) : Nat := (plS ps s s.size).2.2
noncomputable def pageN (ps : List Int) (rs : List ByteArray) : Nat := (rs.map (rowMv ps)).sum
theorem pageN_take {ps : List Int} {rs : List ByteArray} {k : Nat} {x : ByteArray} (h : rs[k]? = some x) : pageN ps (rs.take (k + 1)) = pageN ps (rs.take k) + rowMv ps x := by
  rw [pageN, take8 h, List.map_append, List.sum_append, pageN]; simp
theorem cell_of_block {w : World} {G i : Nat} {cs : Array Value} {T : TypeId} {u : Value} (h : w.heap[G]? = some (.cells cs T)) (hi : cs[i]? = some u) : w.cell? ⟨G, i, none⟩ = some u := by simp [World.cell?, h, hi]
end Go.Proofs.Ytijelimpkcnbjaa
