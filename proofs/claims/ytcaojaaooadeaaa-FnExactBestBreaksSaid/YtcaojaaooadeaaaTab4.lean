/- Racks of stops: the program sets and clears a stop. -/
import Derived.Test.YtcaojaaooadeaaaTab3
import Derived.Test.YtcaojaaooadeaaaCat8
namespace Go.Proofs.Ytcaojaaooadeaaa
open Go.RowKit Go.ChangeShapes Go.WideShapes Go.Deep
set_option linter.unusedVariables false
set_option linter.unusedSimpArgs false

def IOutC (r : List Int × Int) (w : World) (e : Ending) (w' : World) : Prop :=
  ∃ A n c, e = .returned (.tuple #[.slice A n c, .int .i64 r.2]) ∧ n ≤ 1048576 ∧ n ≤ c ∧ OInts w' w.heap.size A n r.1 ∧ Below w.heap.size w w'
theorem IOutC.bad {r : List Int × Int} {w w' : World} {code : Int} (hr : r = ([], code)) (hb : Below w.heap.size w w') : IOutC r w (.returned (.tuple #[.slice none 0 0, .int .i64 code])) w' := by
  subst hr
  exact ⟨none, 0, 0, rfl, by omega, Nat.le_refl _, ORow.nil_, hb⟩
theorem IOutC.iout {r : List Int × Int} {w w' : World} {e : Ending} (h : IOutC r w e w') : IOut r w e w' := by
  obtain ⟨A, n, c, h1, h2, _, h4, h5⟩ := h
  exact ⟨A, n, c, h1, h2, h4, h5⟩
/-- A part of a row. -/
theorem part8 {w : World} {A : Option Addr} {n : Nat} {ps : List Int} (h : Ints w A n ps) (l k c : Nat) (h0 : l ≤ k) (h1 : k ≤ n) (hc : l < k → c ≠ l) :
    Ints w (if c = l then A else A.map (·.add (l * 1))) (k - l) ((ps.take k).drop l) := by
  refine ⟨by simp [h.1]; omega, fun hp => ?_⟩
  obtain ⟨b, off, rfl, hb, hcell⟩ := h.2 (by omega)
  rw [if_neg (hc (by omega))]
  refine ⟨b, off + l, ?_, hb, fun i x hx j u hu => ?_⟩
  · simp only [Option.map_some, Addr.add, Nat.mul_one]
    split
    · rename_i hz; simp [hz]
    · rfl
  · rw [List.getElem?_drop, List.getElem?_take] at hx
    split at hx
    · have := hcell (l + i) x hx j u hu
      rw [← this]
      congr 2
      omega
    · cases hx
theorem iss3 {w : World} {A B C : Option Addr} {g a b c a' b' c' : Nat} {xs ys zs : List Int} {T : TypeId} (hr : w.heap[g]? = some (.cells #[.slice A a a', .slice B b b', .slice C c c'] T))
    (h1 : Ints w A a xs) (h2 : Ints w B b ys) (h3 : Ints w C c zs) (ha : a ≤ 1000) (hb : b ≤ 1000) (hc : c ≤ 1000) : IntSS w (some ⟨g, 0, none⟩) 3 [xs, ys, zs] := by
  have hlt : g < w.heap.size := (Array.getElem?_eq_some_iff.1 hr).1
  refine ⟨[⟨A, a, a'⟩, ⟨B, b, b'⟩, ⟨C, c, c'⟩], ⟨rfl, fun _ => ⟨g, 0, rfl, hlt, fun i x hx j u hu => ?_⟩⟩, rfl, fun i r xs hr hx => ?_⟩
  · match j, hu with
    | 0, hu =>
      simp only [RowD.cells, List.getElem?_cons_zero, Option.some.injEq] at hu
      subst hu
      match i, hx with
      | 0, hx => cases hx; exact cell_of_row w g _ _ T (0, 0) hr
      | 1, hx => cases hx; exact cell_of_row w g _ _ T (0, 0) hr
      | 2, hx => cases hx; exact cell_of_row w g _ _ T (0, 0) hr
      | i + 3, hx => simp at hx
    | j + 1, hu => simp [RowD.cells] at hu
  · match i, hr, hx with
    | 0, hr, hx => cases hr; cases hx; exact ⟨h1, Nat.le_trans ha (by unfold maxLen; omega)⟩
    | 1, hr, hx => cases hr; cases hx; exact ⟨h2, Nat.le_trans hb (by unfold maxLen; omega)⟩
    | 2, hr, hx => cases hr; cases hx; exact ⟨h3, Nat.le_trans hc (by unfold maxLen; omega)⟩
    | i + 3, hr, hx => simp at hr
theorem iss2 {w : World} {A B : Option Addr} {g a b a' b' : Nat} {xs ys : List Int} {T : TypeId} (hr : w.heap[g]? = some (.cells #[.slice A a a', .slice B b b'] T))
    (h1 : Ints w A a xs) (h2 : Ints w B b ys) (ha : a ≤ 1000) (hb : b ≤ 1000) : IntSS w (some ⟨g, 0, none⟩) 2 [xs, ys] := by
  have hlt : g < w.heap.size := (Array.getElem?_eq_some_iff.1 hr).1
  refine ⟨[⟨A, a, a'⟩, ⟨B, b, b'⟩], ⟨rfl, fun _ => ⟨g, 0, rfl, hlt, fun i x hx j u hu => ?_⟩⟩, rfl, fun i r xs hr hx => ?_⟩
  · match j, hu with
    | 0, hu =>
      simp only [RowD.cells, List.getElem?_cons_zero, Option.some.injEq] at hu
      subst hu
      match i, hx with
      | 0, hx => cases hx; exact cell_of_row w g _ _ T (0, 0) hr
      | 1, hx => cases hx; exact cell_of_row w g _ _ T (0, 0) hr
      | i + 2, hx => simp at hx
    | j + 1, hu => simp [RowD.cells] at hu
  · match i, hr, hx with
    | 0, hr, hx => cases hr; cases hx; exact ⟨h1, Nat.le_trans ha (by unfold maxLen; omega)⟩
    | 1, hr, hx => cases hr; cases hx; exact ⟨h2, Nat.le_trans hb (by unfold maxLen; omega)⟩
    | i + 2, hr, hx => simp at hr

end Go.Proofs.Ytcaojaaooadeaaa
