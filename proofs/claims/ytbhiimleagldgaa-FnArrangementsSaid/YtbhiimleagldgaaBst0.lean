/- The best exchange, and exchanges again and again, as data. -/
import Derived.Test.YtbhiimleagldgaaArr0
import Derived.Test.YtbhiimleagldgaaSwp0
namespace Go.Proofs.Ytbhiimleagldgaa
set_option linter.unusedVariables false

/-- The exchange that is best so far, and the least cost so far. -/
abbrev BSt := Option (Nat × Nat) × Int
def fx : Option (Nat × Nat) → Int | none => -1 | some p => p.1
def fy : Option (Nat × Nat) → Int | none => -1 | some p => p.2
def gx : Option (Nat × Nat) → Int | none => 0 | some p => p.1
def gy : Option (Nat × Nat) → Int | none => 0 | some p => p.2
def stepB (b : BasketD) (xss : List (List Int)) (ps : List Int) (st : BSt) (i k : Nat) : BSt :=
  if costI b xss (swapL ps i k) < st.2 then (some (i, k), costI b xss (swapL ps i k)) else st
def innerB (b : BasketD) (xss : List (List Int)) (ps : List Int) (i : Nat) (st : BSt) : Nat → BSt
  | 0 => st
  | j + 1 => stepB b xss ps (innerB b xss ps i st j) i (i + 1 + j)
def outerB (b : BasketD) (xss : List (List Int)) (ps : List Int) : Nat → BSt
  | 0 => (none, costI b xss ps)
  | i + 1 => innerB b xss ps i (outerB b xss ps i) (ps.length - (i + 1))
def bestB (b : BasketD) (xss : List (List Int)) (ps : List Int) : Option (Nat × Nat) := (outerB b xss ps ps.length).1

/-- What is told is an exchange that makes it cheaper. -/
def BInv (b : BasketD) (xss : List (List Int)) (ps : List Int) (st : BSt) : Prop :=
  (st.1 = none ∧ st.2 = costI b xss ps) ∨ ∃ i k, st.1 = some (i, k) ∧ i < k ∧ k < ps.length ∧ st.2 = costI b xss (swapL ps i k) ∧ st.2 < costI b xss ps
theorem BInv.step {b : BasketD} {xss : List (List Int)} {ps : List Int} {st : BSt} (h : BInv b xss ps st) {i k : Nat} (hik : i < k) (hk : k < ps.length) : BInv b xss ps (stepB b xss ps st i k) := by
  unfold stepB
  split
  · rename_i hlt
    refine .inr ⟨i, k, rfl, hik, hk, rfl, ?_⟩
    rcases h with ⟨_, h⟩ | ⟨_, _, _, _, _, _, h⟩
    · rw [← h]; exact hlt
    · exact Int.lt_trans hlt h
  · exact h
theorem BInv.inner {b : BasketD} {xss : List (List Int)} {ps : List Int} {st : BSt} {i : Nat} (h : BInv b xss ps st) : ∀ j, i + 1 + j ≤ ps.length → BInv b xss ps (innerB b xss ps i st j)
  | 0, _ => h
  | j + 1, hj => (BInv.inner h j (by omega)).step (by omega) (by omega)
theorem BInv.outer (b : BasketD) (xss : List (List Int)) (ps : List Int) : ∀ i, i ≤ ps.length → BInv b xss ps (outerB b xss ps i)
  | 0, _ => .inl ⟨rfl, rfl⟩
  | i + 1, hi => (BInv.outer b xss ps i (by omega)).inner _ (by omega)
theorem bestB_some {b : BasketD} {xss : List (List Int)} {ps : List Int} {i k : Nat} (h : bestB b xss ps = some (i, k)) : i < k ∧ k < ps.length ∧ costI b xss (swapL ps i k) < costI b xss ps := by
  rcases BInv.outer b xss ps ps.length (Nat.le_refl _) with ⟨h1, _⟩ | ⟨i', k', h1, h2, h3, h4, h5⟩
  · rw [bestB, h1] at h; cases h
  · rw [bestB, h1] at h
    cases h
    exact ⟨h2, h3, by rw [← h4]; exact h5⟩
theorem swapL_mem {ps : List Int} {i k : Nat} (hi : i < ps.length) (hk : k < ps.length) : ∀ x ∈ swapL ps i k, x ∈ ps := fun x hx => by
  rw [swapL, getD_of' (List.getElem?_eq_getElem hi), getD_of' (List.getElem?_eq_getElem hk)] at hx
  rcases List.mem_or_eq_of_mem_set hx with h | rfl
  · rcases List.mem_or_eq_of_mem_set h with h | rfl
    · exact h
    · exact List.getElem_mem _
  · exact List.getElem_mem _
theorem swapL_bars {b : BasketD} {ps : List Int} {i k : Nat} (hi : i < ps.length) (hk : k < ps.length) (h : ∀ (i : Nat) (x : Int), ps[i]? = some x → hasBar b x = true) : ∀ (j : Nat) (x : Int), (swapL ps i k)[j]? = some x → hasBar b x = true := fun j x hx => by
  obtain ⟨q, hq, rfl⟩ := List.getElem_of_mem (swapL_mem hi hk x (List.mem_of_getElem? hx))
  exact h q _ (List.getElem?_eq_getElem hq)
def bestSwapOf (b : BasketD) (xss : List (List Int)) (ps : List Int) : Int × Int × Int :=
  if arrCode b xss ps = 0 then (match bestB b xss ps with | none => (0, 0, 3) | some p => ((p.1 : Int), (p.2 : Int), 0)) else (0, 0, arrCode b xss ps)

/-- The best exchange done again and again, at most so often. -/
def improveF (b : BasketD) (xss : List (List Int)) : Nat → List Int → List Int
  | 0, ps => ps
  | f + 1, ps => match bestB b xss ps with | none => ps | some p => improveF b xss f (swapL ps p.1 p.2)
def improveL (b : BasketD) (xss : List (List Int)) (ps : List Int) : List Int := improveF b xss ((costI b xss ps).toNat + 1) ps
theorem improveF_none {b : BasketD} {xss : List (List Int)} {ps : List Int} {f : Nat} (hf : 0 < f) (h : bestB b xss ps = none) : improveF b xss f ps = ps := by
  obtain ⟨g, rfl⟩ : ∃ g, f = g + 1 := ⟨f - 1, by omega⟩
  rw [improveF, h]
theorem improveF_some {b : BasketD} {xss : List (List Int)} {ps : List Int} {f : Nat} {i k : Nat} (h : bestB b xss ps = some (i, k)) : improveF b xss (f + 1) ps = improveF b xss f (swapL ps i k) := by
  rw [improveF, h]
def improveOf (b : BasketD) (xss : List (List Int)) (ps : List Int) : List Int × Int := if arrCode b xss ps = 0 then (improveL b xss ps, 0) else ([], arrCode b xss ps)
end Go.Proofs.Ytbhiimleagldgaa
