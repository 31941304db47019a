/- Rows of integers that a call owns: made, read, changed. -/
import Derived.Test.YtceedmejmmoepaaDoorOwn8
namespace Go.Proofs.YtceedmejmmoepaaDoor
open Go.RowKit Go.ChangeShapes Go.WideShapes Go.Deep
set_option linter.unusedVariables false
set_option linter.unusedSimpArgs false

theorem getD_ofI {l : List Int} {i : Nat} {x : Int} (h : l[i]? = some x) : l.getD i 0 = x := by simp [List.getD, h]
theorem OInts.putI {w : World} {base g n i : Nat} {ps : List Int} (x : Int) (h : OInts w base (some ⟨g, 0, none⟩) n ps) (hi : i < n) : OInts (w.setCell ⟨g, i, none⟩ (.int .i64 x)) base (some ⟨g, 0, none⟩) n (ps.set i x) := by
  rcases h with ⟨hl, ⟨h0, _⟩ | ⟨g', m, f, h1, hb, hr, hm, hf⟩⟩
  · cases h0
  · cases h1
    refine ⟨by simp [hl], .inr ⟨g, m, _, rfl, hb, hr.set i _, hm, fun j y hy q u hu => ?_⟩⟩
    have hj : j < n := by have := (List.getElem?_eq_some_iff.1 hy).1; simpa [hl] using this
    match q, hu with
    | 0, hu =>
      simp [intC] at hu
      subst hu
      refine ⟨by omega, ?_⟩
      by_cases hij : i = j
      · subst hij
        rw [List.getElem?_set_self (by omega)] at hy
        cases hy
        simp
      · rw [List.getElem?_set_ne hij] at hy
        have := (hf j y hy 0 _ rfl).2
        simp only [Nat.mul_one, Nat.add_zero] at this ⊢
        rw [if_neg (fun h => hij h.symm)]
        exact this
    | q + 1, hu => simp [intC] at hu
theorem OInts.partsI {w : World} {base g n i : Nat} {ps : List Int} (h : OInts w base (some ⟨g, 0, none⟩) n ps) (hi : i < n) : w.cell? ⟨g, i, none⟩ = some (.int .i64 (ps.getD i 0)) ∧ w.frozen? ⟨g, i, none⟩ = false ∧ g < w.heap.size ∧ base ≤ g := by
  rcases h with ⟨hl, ⟨h0, _⟩ | ⟨g', m, f, h1, hb, hr, hm, hf⟩⟩
  · cases h0
  · cases h1
    have hx : ps[i]? = some ps[i] := List.getElem?_eq_getElem (by omega)
    obtain ⟨h2, h3⟩ := hf i _ hx 0 _ rfl
    rw [Nat.mul_one, Nat.add_zero] at h2 h3
    have h4 := hr.cell (i := i) h2
    rw [h3] at h4
    exact ⟨by rw [getD_ofI hx]; exact h4, hr.frozen i, hr.lt, hb⟩
theorem OInts.zerosI (w : World) (n : Nat) : OInts (w.alloc (.cells (madeCells #[.int .i64 0] n) 2)) w.heap.size (some ⟨w.heap.size, 0, none⟩) n (List.replicate n 0) := by
  have hr := World.rowIs_made w (.int .i64 0) n 2
  refine ⟨by simp, .inr ⟨w.heap.size, n, _, rfl, Nat.le_refl _, hr, by omega, fun i x hx j u hu => ?_⟩⟩
  obtain ⟨h1, h2⟩ := List.getElem?_eq_some_iff.1 hx
  rw [List.getElem_replicate] at h2
  subst h2
  simp at h1
  match j, hu with
  | 0, hu => cases hu; exact ⟨by omega, rfl⟩
  | j + 1, hu => simp [intC] at hu
theorem set_sameI {l : List Int} {i : Nat} {x : Int} (h : i < l.length) : (l.set i x).getD i 0 = x := by
  rw [List.getD, List.getElem?_set_self h]; rfl
theorem set_otherI {l : List Int} {i j : Nat} {x : Int} (h : i ≠ j) : (l.set i x).getD j 0 = l.getD j 0 := by
  rw [List.getD, List.getElem?_set_ne h]; rfl
end Go.Proofs.YtceedmejmmoepaaDoor
