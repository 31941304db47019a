/- The best breaks, without a program: what is least from each word on, and the first of the equals. -/
import Derived.Test.YtcaojaaooadeaaaLn6
namespace Go.Proofs.Ytcaojaaooadeaaa
open Go.RowKit Go.ChangeShapes Go.WideShapes Go.Deep
set_option linter.unusedVariables false
set_option linter.unusedSimpArgs false

def BIG : Int := 9223372036854775807
/-- The least of some costs, and the first place where it is. -/
def scanE (c : Nat → Int) : Nat → Nat → Int × Nat → Int × Nat
  | 0, _, b => b
  | m + 1, k, b => scanE c m (k + 1) (if c k < b.1 then (c k, k) else b)
def fitI (W : Nat) (ws : List ByteArray) (i : Nat) : Nat := fitN W (ws.drop i)
def bestE (W : Nat) (ws : List ByteArray) : Nat → Nat → Int × Nat
  | 0, i => (0, i + fitI W ws i)
  | f + 1, i => if ws.length ≤ i + fitI W ws i then (0, i + fitI W ws i) else scanE (fun k => sqW ws (W : Int) (i, k) + (bestE W ws f k).1) (fitI W ws i) (i + 1) (BIG, i + fitI W ws i)
def endE (W : Nat) (ws : List ByteArray) (i : Nat) : Int × Nat := bestE W ws (ws.length - i) i
def costE (W : Nat) (ws : List ByteArray) (i k : Nat) : Int := sqW ws (W : Int) (i, k) + (endE W ws k).1
theorem scan_congr {c d : Nat → Int} : ∀ (m k : Nat) (b : Int × Nat), (∀ j, k ≤ j → j < k + m → c j = d j) → scanE c m k b = scanE d m k b
  | 0, _, _, _ => rfl
  | m + 1, k, b, h => by
    rw [scanE, scanE, h k (Nat.le_refl _) (by omega)]
    exact scan_congr m (k + 1) _ (fun j h1 h2 => h j (by omega) (by omega))
theorem scan_snoc (c : Nat → Int) : ∀ (m k : Nat) (b : Int × Nat), scanE c (m + 1) k b = if c (k + m) < (scanE c m k b).1 then (c (k + m), k + m) else scanE c m k b
  | 0, k, b => rfl
  | m + 1, k, b => by
    rw [scanE, scan_snoc c m (k + 1), show k + 1 + m = k + (m + 1) by omega]
    rfl
/-- What is found is the first of the least. -/
theorem scan_first (c : Nat → Int) : ∀ (m k : Nat) (b : Int × Nat), (∀ j, k ≤ j → j < k + m → c j < b.1) → 0 < m → ∃ j, k ≤ j ∧ j < k + m ∧ scanE c m k b = (c j, j) ∧ (∀ i, k ≤ i → i < j → c j < c i) ∧ (∀ i, k ≤ i → i < k + m → c j ≤ c i)
  | 0, _, _, _, h => absurd h (by omega)
  | 1, k, b, hb, _ => by
    refine ⟨k, Nat.le_refl _, by omega, ?_, fun i h1 h2 => absurd h1 (by omega), fun i h1 h2 => ?_⟩
    · rw [scanE, scanE, if_pos (hb k (Nat.le_refl _) (by omega))]
    · rw [show i = k by omega]; exact Int.le_refl _
  | m + 2, k, b, hb, _ => by
    obtain ⟨j, h1, h2, h3, h4, h5⟩ := scan_first c (m + 1) k b (fun j h1 h2 => hb j h1 (by omega)) (by omega)
    rw [scan_snoc, h3]
    by_cases hc : c (k + (m + 1)) < c j
    · rw [if_pos hc]
      refine ⟨k + (m + 1), by omega, by omega, rfl, fun i h6 h7 => ?_, fun i h6 h7 => ?_⟩
      · have := h5 i h6 (by omega); omega
      · by_cases he : i = k + (m + 1)
        · rw [he]; exact Int.le_refl _
        · have := h5 i h6 (by omega); omega
    · rw [if_neg hc]
      refine ⟨j, h1, by omega, rfl, h4, fun i h6 h7 => ?_⟩
      by_cases he : i = k + (m + 1)
      · rw [he]; omega
      · exact h5 i h6 (by omega)
theorem best_fuel (W : Nat) (ws : List ByteArray) (hs : ∀ x ∈ ws, x.size ≤ W) : ∀ (f i : Nat), ws.length - i ≤ f → bestE W ws f i = endE W ws i
  | 0, i, h => by rw [endE, show ws.length - i = 0 by omega]
  | f + 1, i, h => by
    by_cases h0 : ws.length ≤ i
    · rw [endE, show ws.length - i = 0 by omega, bestE, bestE, if_pos (by omega)]
    · obtain ⟨m, hm⟩ : ∃ m, ws.length - i = m + 1 := ⟨ws.length - i - 1, by omega⟩
      rw [endE, hm, bestE, bestE]
      split
      · rfl
      · refine scan_congr _ _ _ (fun j h1 h2 => ?_)
        have hf := best_fuel W ws hs f j (by omega)
        have hm2 := best_fuel W ws hs m j (by omega)
        simp only [hf, hm2]
  termination_by f => f
  decreasing_by all_goals omega
theorem fitI_le (W : Nat) (ws : List ByteArray) (i : Nat) : fitI W ws i ≤ ws.length - i := by have := fit_le W (ws.drop i); rwa [List.length_drop] at this
theorem fitI_one {W : Nat} {ws : List ByteArray} {i : Nat} (hs : ∀ x ∈ ws, x.size ≤ W) (hi : i < ws.length) : 1 ≤ fitI W ws i := fit_one (by rw [List.length_drop]; omega) (fun x hx => hs x (List.mem_of_mem_drop hx))
theorem fitI_iff {W : Nat} {ws : List ByteArray} {i k : Nat} (h1 : i ≤ k) (h2 : k ≤ ws.length) : longN (lineW ws (i, k)) ≤ W ↔ k ≤ i + fitI W ws i := by
  rw [lineW, fit_iff W (ws.drop i) (k - i) (by rw [List.length_drop]; omega)]
  unfold fitI
  omega
theorem end_all {W : Nat} {ws : List ByteArray} {i : Nat} (h : ws.length ≤ i + fitI W ws i) : endE W ws i = (0, i + fitI W ws i) := by
  rw [endE]
  cases hm : ws.length - i with
  | zero => rw [bestE]
  | succ m => rw [bestE, if_pos h]
theorem end_step {W : Nat} {ws : List ByteArray} (hs : ∀ x ∈ ws, x.size ≤ W) {i : Nat} (h : i + fitI W ws i < ws.length) : endE W ws i = scanE (costE W ws i) (fitI W ws i) (i + 1) (BIG, i + fitI W ws i) := by
  obtain ⟨m, hm⟩ : ∃ m, ws.length - i = m + 1 := ⟨ws.length - i - 1, by omega⟩
  rw [endE, hm, bestE, if_neg (by omega)]
  refine scan_congr _ _ _ (fun j h1 h2 => ?_)
  rw [best_fuel W ws hs m j (by omega)]
  rfl
theorem sq80 {W L : Nat} (hW : W ≤ 80) (h : L ≤ W) : 0 ≤ ((W : Int) - (L : Int)) * ((W : Int) - (L : Int)) ∧ ((W : Int) - (L : Int)) * ((W : Int) - (L : Int)) ≤ 6400 := sq_range (by omega) (by omega)
theorem end_range {W : Nat} {ws : List ByteArray} (hW : W ≤ 80) (hs : ∀ x ∈ ws, x.size ≤ W) : ∀ (m i : Nat), ws.length - i ≤ m → m ≤ 1000 → 0 ≤ (endE W ws i).1 ∧ (endE W ws i).1 ≤ 6400 * (m : Int)
  | 0, i, h, _ => by rw [end_all (by have := fitI_le W ws i; omega)]; simp
  | m + 1, i, h, h9 => by
    by_cases hf : ws.length ≤ i + fitI W ws i
    · rw [end_all hf]; simp only; omega
    · have h1 := fitI_one hs (show i < ws.length by omega)
      have hr : ∀ j, i + 1 ≤ j → j < i + 1 + fitI W ws i → 0 ≤ costE W ws i j ∧ costE W ws i j ≤ 6400 + 6400 * (m : Int) := fun j h2 h3 => by
        have ih := end_range hW hs m j (by omega) (by omega)
        have hl := (fitI_iff (W := W) (ws := ws) (i := i) (k := j) (by omega) (by omega)).2 (by omega)
        have := sq80 hW hl
        unfold costE sqW
        omega
      obtain ⟨j, h2, h3, h4, _⟩ := scan_first (costE W ws i) (fitI W ws i) (i + 1) (BIG, i + fitI W ws i) (fun j h2 h3 => by
        have := hr j h2 h3
        show costE W ws i j < BIG
        unfold BIG
        omega) (by omega)
      rw [end_step hs (by omega), h4]
      have := hr j h2 h3
      simp only
      omega
/-- What is known of a word from which not all words fit on the line. -/
structure StepE (W : Nat) (ws : List ByteArray) (i : Nat) : Prop where
  one : 1 ≤ fitI W ws i
  lt : i + fitI W ws i < ws.length
  cost : ∀ j, i + 1 ≤ j → j ≤ i + fitI W ws i → 0 ≤ costE W ws i j ∧ costE W ws i j ≤ 6400000
  scan : endE W ws i = scanE (costE W ws i) (fitI W ws i) (i + 1) (BIG, i + fitI W ws i)
  first : ∃ j, i + 1 ≤ j ∧ j ≤ i + fitI W ws i ∧ endE W ws i = (costE W ws i j, j) ∧ (∀ q, i + 1 ≤ q → q < j → costE W ws i j < costE W ws i q) ∧ (∀ q, i + 1 ≤ q → q ≤ i + fitI W ws i → costE W ws i j ≤ costE W ws i q)
theorem step_E {W : Nat} {ws : List ByteArray} (hW : W ≤ 80) (hs : ∀ x ∈ ws, x.size ≤ W) (hn : ws.length ≤ 900) {i : Nat} (h : i + fitI W ws i < ws.length) : StepE W ws i := by
  have h1 := fitI_one hs (show i < ws.length by omega)
  have hr : ∀ j, i + 1 ≤ j → j ≤ i + fitI W ws i → 0 ≤ costE W ws i j ∧ costE W ws i j ≤ 6400000 := fun j h2 h3 => by
    have ih := end_range hW hs (ws.length - j) j (Nat.le_refl _) (by omega)
    have hl := (fitI_iff (W := W) (ws := ws) (i := i) (k := j) (by omega) (by omega)).2 (by omega)
    have := sq80 hW hl
    unfold costE sqW
    omega
  refine ⟨h1, h, hr, end_step hs h, ?_⟩
  obtain ⟨j, h2, h3, h4, h5, h6⟩ := scan_first (costE W ws i) (fitI W ws i) (i + 1) (BIG, i + fitI W ws i) (fun j h2 h3 => by
    have := hr j h2 (by omega)
    show costE W ws i j < BIG
    unfold BIG
    omega) (by omega)
  exact ⟨j, h2, by omega, by rw [end_step hs h, h4], h5, fun q hq1 hq2 => h6 q hq1 (by omega)⟩
theorem end_le {W : Nat} {ws : List ByteArray} (hW : W ≤ 80) (hs : ∀ x ∈ ws, x.size ≤ W) (hn : ws.length ≤ 900) (i : Nat) : 0 ≤ (endE W ws i).1 ∧ (endE W ws i).1 ≤ 6400000 := by
  have := end_range hW hs (ws.length - i) i (Nat.le_refl _) (by omega)
  omega
/-- The breaks that the least endings tell. -/
def folL (W : Nat) (ws : List ByteArray) : Nat → Nat → List Int
  | 0, _ => []
  | f + 1, i => if (endE W ws i).2 < ws.length then ((endE W ws i).2 : Int) :: folL W ws f (endE W ws i).2 else []
def tailE (W : Nat) (ws : List ByteArray) (f a : Nat) : List Int := if a < ws.length then (a : Int) :: folL W ws f a else []
def bestL (W : Nat) (ws : List ByteArray) : List Int := folL W ws ws.length 0
theorem fol_tail (W : Nat) (ws : List ByteArray) (f a : Nat) : folL W ws (f + 1) a = tailE W ws f (endE W ws a).2 := rfl
theorem tailE_end {W : Nat} {ws : List ByteArray} {f a : Nat} (h : ws.length ≤ a) : tailE W ws f a = [] := if_neg (by omega)
theorem tailE_step {W : Nat} {ws : List ByteArray} {f a : Nat} (h : a < ws.length) (hf : ws.length - a ≤ f) : tailE W ws f a = (a : Int) :: tailE W ws (f - 1) (endE W ws a).2 := by
  rw [tailE, if_pos h]
  obtain ⟨g, rfl⟩ : ∃ g, f = g + 1 := ⟨f - 1, by omega⟩
  rw [fol_tail, Nat.add_sub_cancel]
theorem bestL_tail {W : Nat} {ws : List ByteArray} : bestL W ws = tailE W ws (ws.length - 1) (endE W ws 0).2 := by
  rw [bestL]
  match h : ws.length with
  | 0 => rw [folL, tailE_end (by omega)]
  | n + 1 => rw [fol_tail, Nat.add_sub_cancel]
/-- The next line begins behind this one. -/
theorem next_E {W : Nat} {ws : List ByteArray} (hW : W ≤ 80) (hs : ∀ x ∈ ws, x.size ≤ W) (hn : ws.length ≤ 900) {i : Nat} (hi : i < ws.length) : i < (endE W ws i).2 ∧ (endE W ws i).2 ≤ ws.length := by
  have hle := fitI_le W ws i
  by_cases hf : ws.length ≤ i + fitI W ws i
  · rw [end_all hf]; simp only; omega
  · obtain ⟨_, hlt, _, _, j, h2, h3, h4, _⟩ := step_E hW hs hn (show i + fitI W ws i < ws.length by omega)
    rw [h4]; simp only; omega
def bbR (ws : List ByteArray) (wd : Int) : List Int × Int × Int := if okW ws wd = true then (bestL wd.toNat ws, (endE wd.toNat ws 0).1, 0) else ([], 0, 1)
end Go.Proofs.Ytcaojaaooadeaaa
