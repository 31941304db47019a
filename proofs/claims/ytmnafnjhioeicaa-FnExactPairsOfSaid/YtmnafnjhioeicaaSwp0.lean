/- A copy of a slice of int64, and one with two elements exchanged: the model's functions and the program's. -/
import Derived.Test.YtmnafnjhioeicaaArrD
import Derived.Test.YtmnafnjhioeicaaIssO
import Derived.BigRegion
import Derived.Laws.OwnMore
namespace Go.Proofs.Ytmnafnjhioeicaa
open Go.RowKit
set_option linter.unusedVariables false
set_option linter.unusedSimpArgs false

theorem owns_i {w : World} {base n : Nat} {v : Value} {l : List Int} (hn : l.length = n) (h : w.ownsRow base 2 1 v n (l.flatMap intC)) : ∃ A c, v = .slice A n c ∧ n ≤ c ∧ OInts w base A n l := by
  subst hn
  obtain ⟨A, c, rfl, hO⟩ := ORow.of_owns (fun (y : Int) => (rfl : (intC y).length = 1)) h
  refine ⟨A, c, rfl, ?_, hO⟩
  obtain ⟨_, ⟨h1, h2⟩ | ⟨g, cap, cur, hv, _, _, hc, _⟩⟩ := h
  · omega
  · cases hv; exact hc
theorem flat_i : ∀ (xs : List Int) (j : Nat), (xs.flatMap intC)[j]? = (xs[j]?).map fun x => Value.int .i64 x
  | [], j => by simp
  | x :: r, 0 => by simp [intC]
  | x :: r, j + 1 => by
    have h := flat_i r j
    simp only [List.flatMap_cons, intC, List.cons_append, List.nil_append, List.getElem?_cons_succ]
    exact h
theorem flat_len (xs : List Int) : (xs.flatMap intC).length = xs.length * 1 := flat_length (fun (y : Int) => (rfl : (intC y).length = 1)) xs
def CopyOut (n : Nat) (xs : List Int) (w : World) (e : Ending) (w' : World) : Prop := ∃ g d, e = .returned (.slice (some ⟨g, 0, none⟩) n d) ∧ n ≤ d ∧ OInts w' w.heap.size (some ⟨g, 0, none⟩) n xs ∧ Below w.heap.size w w'
/-- Two elements exchanged. -/
def swapL (ps : List Int) (i k : Nat) : List Int := (ps.set i (ps.getD k 0)).set k (ps.getD i 0)
theorem swapL_length (ps : List Int) (i k : Nat) : (swapL ps i k).length = ps.length := by simp [swapL]
theorem OInts.put {w : World} {base g n i : Nat} {ps : List Int} (x : Int) (h : OInts w base (some ⟨g, 0, none⟩) n ps) (hi : i < n) : OInts (w.setCell ⟨g, i, none⟩ (.int .i64 x)) base (some ⟨g, 0, none⟩) n (ps.set i x) := by
  rcases h with ⟨hl, ⟨h0, _⟩ | ⟨g', m, f, h1, hb, hr, hm, hf⟩⟩
  · cases h0
  · cases h1
    refine ⟨by simp [hl], .inr ⟨g, m, _, rfl, hb, hr.set i _, hm, fun j y hy q u hu => ?_⟩⟩
    have hj : j < n := by have := (List.getElem?_eq_some_iff.1 hy).1; simpa [hl] using this
    match q, hu with
    | 0, hu =>
      simp [intC] at hu
      subst hu
      refine ⟨by omega, ?_⟩
      by_cases hij : i = j
      · subst hij
        rw [List.getElem?_set_self (by omega)] at hy
        cases hy
        simp
      · rw [List.getElem?_set_ne hij] at hy
        have := (hf j y hy 0 _ rfl).2
        simp only [Nat.mul_one, Nat.add_zero] at this ⊢
        rw [if_neg (fun h => hij h.symm)]
        exact this
    | q + 1, hu => simp [intC] at hu
theorem OInts.swap {w : World} {base g n i k : Nat} {ps : List Int} {x y : Int} (h : OInts w base (some ⟨g, 0, none⟩) n ps) (hi : ps[i]? = some x) (hk : ps[k]? = some y) :
    OInts ((w.setCell ⟨g, i, none⟩ (.int .i64 y)).setCell ⟨g, k, none⟩ (.int .i64 x)) base (some ⟨g, 0, none⟩) n (swapL ps i k) := by
  have hi' : i < n := by have := (List.getElem?_eq_some_iff.1 hi).1; rw [h.1] at this; exact this
  have hk' : k < n := by have := (List.getElem?_eq_some_iff.1 hk).1; rw [h.1] at this; exact this
  rw [swapL, getD_of' hi, getD_of' hk]
  exact (h.put y hi').put x hk'
end Go.Proofs.Ytmnafnjhioeicaa
