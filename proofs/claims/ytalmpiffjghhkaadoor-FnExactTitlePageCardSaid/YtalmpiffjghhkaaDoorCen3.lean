/- Centring: the model's blocks and boxes. -/
import Derived.Test.YtalmpiffjghhkaaDoorCen2
import Derived.Deep.AppendLies
namespace Go.Proofs.YtalmpiffjghhkaaDoor
open Go.RowKit Go.ChangeShapes Go.WideShapes Go.Deep
set_option linter.unusedVariables false
set_option linter.unusedSimpArgs false

theorem most_ge : ∀ (ls : List ByteArray) (a : Nat), a ≤ ls.foldl (fun m x => max m x.size) a ∧ ∀ x ∈ ls, x.size ≤ ls.foldl (fun m x => max m x.size) a
  | [], a => ⟨Nat.le_refl _, fun x h => absurd h (by simp)⟩
  | y :: ls, a => by
    obtain ⟨h1, h2⟩ := most_ge ls (max a y.size)
    refine ⟨Nat.le_trans (Nat.le_max_left _ _) h1, fun x hx => ?_⟩
    rcases List.mem_cons.1 hx with rfl | hx
    · exact Nat.le_trans (Nat.le_max_right _ _) h1
    · exact h2 x hx
theorem most_le : ∀ (ls : List ByteArray) (a B : Nat), a ≤ B → (∀ x ∈ ls, x.size ≤ B) → ls.foldl (fun m x => max m x.size) a ≤ B
  | [], a, B, h, _ => h
  | y :: ls, a, B, h, hx => most_le ls _ B (Nat.max_le.2 ⟨h, hx y (by simp)⟩) (fun x h' => hx x (by simp [h']))
theorem linesB_ok {ls : List ByteArray} (h : ¬ linesB ls < 0) : ls.length ≤ 30 ∧ linesB ls = ((mostL ls : Nat) : Int) ∧ mostL ls ≤ 100 ∧ ∀ x ∈ ls, x.size ≤ mostL ls := by
  unfold linesB at h ⊢
  split at h
  · rename_i h1
    rw [if_pos h1]
    split at h
    · exact absurd (by decide) h
    · rename_i h2
      rw [if_neg h2]
      exact ⟨by omega, rfl, most_le _ _ _ (by omega) fun x hx => lineB_size (List.all_eq_true.1 h1 x hx), (most_ge ls 0).2⟩
  · exact absurd (by decide) h
def cbR (ls : List ByteArray) (wd : Int) : List ByteArray × Int :=
  if linesB ls < 0 then ([], 2) else if inR wd 1 100 = true then (if wd < linesB ls then ([], 5) else (ls.map (fun x => repB 32 ((wd - linesB ls).toNat / 2) ++ x), 0)) else ([], 2)
def boL (m : Nat) (x : ByteArray) : ByteArray := ⟨#[124, 32]⟩ ++ x ++ repB 32 (m - x.size) ++ ⟨#[32, 124]⟩
def boE (m : Nat) : ByteArray := ⟨#[43]⟩ ++ repB 45 (m + 2) ++ ⟨#[43]⟩
def boR (ls : List ByteArray) : List ByteArray × Int :=
  if linesB ls < 0 then ([], 2) else if 96 < linesB ls then ([], 5) else (boE (linesB ls).toNat :: ls.map (boL (linesB ls).toNat) ++ [boE (linesB ls).toNat], 0)
theorem snoc_m {g : ByteArray → ByteArray} {ls : List ByteArray} {k : Nat} {x : ByteArray} (h : ls[k]? = some x) : ((ls.take (k + 1)).map g).flatMap strC = ((ls.take k).map g).flatMap strC ++ [.string (g x)] := by rw [take8 h, List.map_append, List.flatMap_append]; rfl
theorem snoc_m2 {g : ByteArray → ByteArray} {E : ByteArray} {ls : List ByteArray} {k : Nat} {x : ByteArray} (h : ls[k]? = some x) : (E :: (ls.take (k + 1)).map g).flatMap strC = (E :: (ls.take k).map g).flatMap strC ++ [.string (g x)] := by rw [List.flatMap_cons, List.flatMap_cons, snoc_m h, List.append_assoc]
theorem owns_one8 {w : World} {base : Nat} (E : ByteArray) (h : base ≤ w.heap.size) : (w.alloc (.cells #[.string E] 9)).ownsRow base 9 1 (.slice (some ⟨w.heap.size, 0, none⟩) 1 1) 1 [.string E] :=
  ⟨rfl, .inr ⟨w.heap.size, 1, #[.string E], rfl, h, heap_alloc_new _ _, Nat.le_refl _, by unfold maxLen; omega, rfl, rfl⟩⟩
end Go.Proofs.YtalmpiffjghhkaaDoor
