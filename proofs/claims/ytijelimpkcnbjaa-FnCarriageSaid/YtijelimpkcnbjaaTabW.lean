/- Widths of columns: whether they are some; the stops for them, and the widest gap. -/
import Derived.Test.YtijelimpkcnbjaaTab0
import Derived.Test.YtijelimpkcnbjaaOwn8
namespace Go.Proofs.Ytijelimpkcnbjaa
open Go.RowKit Go.ChangeShapes Go.WideShapes Go.Deep
set_option linter.unusedVariables false
set_option linter.unusedSimpArgs false

def widthB (x : Int) : Bool := inR x 0 120
def widthsB (ws : List Int) : Bool := ws.all widthB && inR (ws.length : Int) 1 12
/-- Where the next column begins, behind columns of these widths. -/
def atN (gap : Int) : Int → List Int → Int
  | a, [] => a
  | a, x :: r => atN gap (a + x + gap) r
def stopsL (gap : Int) : Int → List Int → List Int
  | _, [] => []
  | a, x :: r => a :: stopsL gap (a + x + gap) r
theorem atN_snoc (gap : Int) : ∀ (ws : List Int) (a x : Int), atN gap a (ws ++ [x]) = atN gap a ws + x + gap
  | [], _, _ => rfl
  | y :: r, a, x => atN_snoc gap r _ x
theorem stopsL_snoc (gap : Int) : ∀ (ws : List Int) (a x : Int), stopsL gap a (ws ++ [x]) = stopsL gap a ws ++ [atN gap a ws]
  | [], _, _ => rfl
  | y :: r, a, x => by simp only [List.cons_append, stopsL, atN, stopsL_snoc gap r]
theorem stopsL_len (gap : Int) : ∀ (ws : List Int) (a : Int), (stopsL gap a ws).length = ws.length
  | [], _ => rfl
  | y :: r, a => by simp only [stopsL, List.length_cons, stopsL_len gap r]
theorem atN_range (gap : Int) (h0 : 0 ≤ gap) (h1 : gap ≤ 120) : ∀ (ws : List Int) (a : Int), (∀ x ∈ ws, 0 ≤ x ∧ x ≤ 120) → a ≤ atN gap a ws ∧ atN gap a ws ≤ a + 240 * (ws.length : Int)
  | [], a, _ => by simp [atN]
  | y :: r, a, h => by
    have := h y (by simp)
    have h2 := atN_range gap h0 h1 r (a + y + gap) (fun x hx => h x (by simp [hx]))
    simp only [atN, List.length_cons]
    omega
def stopsR (ws : List Int) (left gap : Int) : List Int × Int :=
  if (widthsB ws && inR left 0 119 && inR gap 1 120) = true then (if decide (atN gap left ws - gap ≤ 120) && rackB (stopsL gap left ws) then (stopsL gap left ws, 0) else ([], 5)) else ([], 2)
def sumI : List Int → Int
  | [] => 0
  | x :: r => x + sumI r
theorem sumI_snoc : ∀ (l : List Int) (x : Int), sumI (l ++ [x]) = sumI l + x
  | [], x => by simp [sumI]
  | y :: r, x => by simp only [List.cons_append, sumI, sumI_snoc r x]; omega
theorem sumI_range : ∀ (ws : List Int), (∀ x ∈ ws, 0 ≤ x ∧ x ≤ 120) → 0 ≤ sumI ws ∧ sumI ws ≤ 120 * (ws.length : Int)
  | [], _ => by simp [sumI]
  | y :: r, h => by
    have := h y (by simp)
    have h2 := sumI_range r (fun x hx => h x (by simp [hx]))
    simp only [sumI, List.length_cons]
    omega
def gapOk (ws : List Int) (left right : Int) : Bool := widthsB ws && inR left 0 120 && inR right left 120
theorem gapOk_eq (ws : List Int) (left right : Int) : gapOk ws left right = (widthsB ws && inR right 0 120 && inR left 0 right) := by
  unfold gapOk
  rw [Bool.and_assoc, Bool.and_assoc]
  congr 1
  apply Bool.eq_iff_iff.2
  simp only [Bool.and_eq_true, inR_iff]
  omega
def gapR (ws : List Int) (left right : Int) : Int × Int :=
  if gapOk ws left right = true then (if ws.length = 1 then (0, 6) else if right - left - sumI ws < (ws.length : Int) - 1 then (0, 5) else ((right - left - sumI ws).tdiv ((ws.length : Int) - 1), 0)) else (0, 2)
theorem widthsB_len {ws : List Int} (h : widthsB ws = true) : 1 ≤ ws.length ∧ ws.length ≤ 12 ∧ ∀ x ∈ ws, 0 ≤ x ∧ x ≤ 120 := by
  simp only [widthsB, Bool.and_eq_true, inR_iff, List.all_eq_true, widthB] at h
  exact ⟨by omega, by omega, h.1⟩

theorem stopsR_no1 {ws : List Int} {left gap : Int} (h : widthsB ws = false) : stopsR ws left gap = ([], 2) := by simp [stopsR, h]
theorem stopsR_no2 {ws : List Int} {left gap : Int} (h : inR left 0 119 = false) : stopsR ws left gap = ([], 2) := by simp [stopsR, h]
theorem stopsR_no3 {ws : List Int} {left gap : Int} (h : inR gap 1 120 = false) : stopsR ws left gap = ([], 2) := by simp [stopsR, h]
theorem stopsR_yes {ws : List Int} {left gap : Int} (h1 : widthsB ws = true) (h2 : inR left 0 119 = true) (h3 : inR gap 1 120 = true) :
    stopsR ws left gap = if decide (atN gap left ws - gap ≤ 120) && rackB (stopsL gap left ws) then (stopsL gap left ws, 0) else ([], 5) := by simp [stopsR, h1, h2, h3]

end Go.Proofs.Ytijelimpkcnbjaa
