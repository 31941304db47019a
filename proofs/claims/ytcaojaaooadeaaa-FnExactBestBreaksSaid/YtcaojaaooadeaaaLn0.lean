/- Lines of words, without a program: which words fit, breaks, and what a line leaves. -/
import Derived.Test.YtcaojaaooadeaaaTxtB
import Derived.Test.YtcaojaaooadeaaaTab0
import Derived.Test.YtcaojaaooadeaaaOwn8
namespace Go.Proofs.Ytcaojaaooadeaaa
open Go.RowKit Go.ChangeShapes Go.WideShapes Go.Deep
set_option linter.unusedVariables false
set_option linter.unusedSimpArgs false

def wordB (most : Int) (s : ByteArray) : Bool := bytesIn 33 126 s && inR (s.size : Int) 1 most
def okW (ws : List ByteArray) (wd : Int) : Bool := ws.all (wordB wd) && (decide (ws.length ≤ 40) && inR wd 1 80)
def sizN : List ByteArray → Nat
  | [] => 0
  | x :: r => x.size + sizN r
/-- The length of a line of words, a blank between two of them. -/
def longN (ws : List ByteArray) : Nat := sizN ws + (ws.length - 1)
/-- How many words fit, behind a bytes that are there already. -/
def fitA (W : Nat) : Nat → List ByteArray → Nat
  | _, [] => 0
  | a, x :: r => if a + x.size ≤ W then fitA W (a + x.size + 1) r + 1 else 0
def fitN (W : Nat) (ws : List ByteArray) : Nat := fitA W 0 ws
/-- The breaks behind a line that begins at a word (f: enough rounds). -/
def brkL (W : Nat) (ws : List ByteArray) : Nat → Nat → List Int
  | 0, _ => []
  | f + 1, a => if a + fitN W (ws.drop a) < ws.length then ((a + fitN W (ws.drop a) : Nat) : Int) :: brkL W ws f (a + fitN W (ws.drop a)) else []
def firstL (W : Nat) (ws : List ByteArray) : List Int := brkL W ws ws.length 0
def tailL (W : Nat) (ws : List ByteArray) (f a : Nat) : List Int := if a < ws.length then (a : Int) :: brkL W ws f a else []
theorem sizN_snoc : ∀ (l : List ByteArray) (x : ByteArray), sizN (l ++ [x]) = sizN l + x.size
  | [], x => by simp [sizN]
  | y :: r, x => by simp only [List.cons_append, sizN, sizN_snoc r x]; omega
theorem sizN_le (M : Nat) : ∀ (l : List ByteArray), (∀ x ∈ l, x.size ≤ M) → sizN l ≤ M * l.length
  | [], _ => by simp [sizN]
  | y :: r, h => by
    have h1 := h y (by simp)
    have h2 := sizN_le M r (fun x hx => h x (by simp [hx]))
    simp only [sizN, List.length_cons, Nat.mul_add, Nat.mul_one]
    omega
theorem fitA_le (W : Nat) : ∀ (ws : List ByteArray) (a : Nat), fitA W a ws ≤ ws.length
  | [], _ => by simp [fitA]
  | x :: r, a => by
    have := fitA_le W r (a + x.size + 1)
    simp only [fitA, List.length_cons]
    split <;> omega
theorem fitA_iff (W : Nat) : ∀ (ws : List ByteArray) (a j : Nat), 1 ≤ j → j ≤ ws.length → (a + sizN (ws.take j) + (j - 1) ≤ W ↔ j ≤ fitA W a ws)
  | [], _, j, h1, h2 => by simp at h2; omega
  | x :: r, a, 1, _, _ => by
    simp only [List.take_succ_cons, List.take_zero, sizN, fitA]
    split <;> omega
  | x :: r, a, j + 2, _, h2 => by
    have ih := fitA_iff W r (a + x.size + 1) (j + 1) (by omega) (by simpa using h2)
    simp only [List.take_succ_cons, sizN, fitA] at ih ⊢
    split <;> omega
theorem fit_le (W : Nat) (ws : List ByteArray) : fitN W ws ≤ ws.length := fitA_le W ws 0
theorem long_take {ws : List ByteArray} {j : Nat} (h : j ≤ ws.length) : longN (ws.take j) = sizN (ws.take j) + (j - 1) := by rw [longN, List.length_take, Nat.min_eq_left h]
theorem fit_iff (W : Nat) (ws : List ByteArray) (j : Nat) (h : j ≤ ws.length) : longN (ws.take j) ≤ W ↔ j ≤ fitN W ws := by
  rw [long_take h]
  by_cases h0 : j = 0
  · subst h0; simp [sizN]
  · have := fitA_iff W ws 0 j (by omega) h
    rw [fitN]
    omega
theorem long_le {ws : List ByteArray} {M : Nat} (h : ∀ x ∈ ws, x.size ≤ M) : longN ws ≤ (M + 1) * ws.length := by
  have := sizN_le M ws h
  rw [longN, Nat.add_mul, Nat.one_mul]
  omega
theorem fit_one {W : Nat} {ws : List ByteArray} (h0 : 0 < ws.length) (h : ∀ x ∈ ws, x.size ≤ W) : 1 ≤ fitN W ws := by
  rw [← fit_iff W ws 1 (by omega)]
  match ws, h0 with
  | x :: r, _ => simpa [longN, sizN] using h x (by simp)
theorem tail_end {W : Nat} {ws : List ByteArray} {f a : Nat} (h : ws.length ≤ a) : tailL W ws f a = [] := if_neg (by omega)
theorem brk_tail (W : Nat) (ws : List ByteArray) (f a : Nat) : brkL W ws (f + 1) a = tailL W ws f (a + fitN W (ws.drop a)) := rfl
theorem first_tail {W : Nat} {ws : List ByteArray} : firstL W ws = tailL W ws (ws.length - 1) (fitN W ws) := by
  rw [firstL]
  match h : ws.length with
  | 0 => rw [brkL, tail_end (by omega)]
  | n + 1 => rw [brk_tail, List.drop_zero, Nat.zero_add, Nat.add_sub_cancel]
theorem tail_step {W : Nat} {ws : List ByteArray} {f a : Nat} (h : a < ws.length) (hf : ws.length - a ≤ f) : tailL W ws f a = (a : Int) :: tailL W ws (f - 1) (a + fitN W (ws.drop a)) := by
  rw [tailL, if_pos h]
  obtain ⟨g, rfl⟩ : ∃ g, f = g + 1 := ⟨f - 1, by omega⟩
  rw [brk_tail, Nat.add_sub_cancel]
theorem brk_len (W : Nat) (ws : List ByteArray) : ∀ f a, (brkL W ws f a).length ≤ f
  | 0, _ => by simp [brkL]
  | f + 1, a => by
    rw [brkL]
    split
    · have := brk_len W ws f (a + fitN W (ws.drop a)); simp only [List.length_cons]; omega
    · simp
theorem word_size {wd : Int} {s : ByteArray} (h : wordB wd s = true) : 1 ≤ s.size ∧ (s.size : Int) ≤ wd := by
  simp only [wordB, Bool.and_eq_true, inR_iff] at h
  omega
theorem okW_ok {ws : List ByteArray} {wd : Int} (h : okW ws wd = true) : ws.length ≤ 40 ∧ 1 ≤ wd ∧ wd ≤ 80 ∧ ∀ x ∈ ws, 1 ≤ x.size ∧ (x.size : Int) ≤ wd ∧ bytesIn 33 126 x = true := by
  simp only [okW, Bool.and_eq_true, inR_iff, List.all_eq_true, decide_eq_true_eq] at h
  refine ⟨h.2.1, h.2.2.1, h.2.2.2, fun x hx => ?_⟩
  have h1 := h.1 x hx
  have := word_size h1
  simp only [wordB, Bool.and_eq_true] at h1
  exact ⟨this.1, this.2, h1.1⟩
/-- The model's order of tests. -/
theorem okW_spec (ws : List ByteArray) (wd : Int) : okW ws wd = (ws.all (wordB wd) && (decide ((ws.length : Int) ≤ 40) && inR wd 1 80)) := by
  rw [okW, show decide ((ws.length : Int) ≤ 40) = decide (ws.length ≤ 40) from decide_eq_decide.2 (by omega)]
/-- The program's order of tests. -/
theorem okW_impl (ws : List ByteArray) (wd : Int) : okW ws wd = (inR wd 1 80 && (decide (ws.length ≤ 40) && ws.all (wordB wd))) := by
  rw [okW]
  cases inR wd 1 80 <;> cases decide (ws.length ≤ 40) <;> cases ws.all (wordB wd) <;> rfl
theorem word_impl {wd : Int} {s : ByteArray} : wordB wd s = (!decide (s.size = 0) && (decide ((s.size : Int) ≤ wd) && bytesIn 33 126 s)) := by
  by_cases h0 : s.size = 0
  · rw [decide_eq_true h0, wordB, show inR (s.size : Int) 1 wd = false from by simp [inR, h0]]; simp
  · rw [decide_eq_false h0, wordB, show inR (s.size : Int) 1 wd = decide ((s.size : Int) ≤ wd) from by
      rw [inR, decide_eq_true (by omega), Bool.true_and], Bool.and_comm]
    rfl
theorem view9 {w : World} {A : Option Addr} {n a e : Nat} {xs : List ByteArray} (h : Strs w A n xs) (hae : a < e) (he : e ≤ n) : ∃ b off, A = some ⟨b, off, none⟩ ∧ b < w.heap.size ∧ Strs w (some ⟨b, off + a, none⟩) (e - a) ((xs.drop a).take (e - a)) := by
  obtain ⟨b, off, rfl, hb, hc⟩ := h.2 (by omega)
  refine ⟨b, off, rfl, hb, by rw [List.length_take, List.length_drop, h.1]; omega, fun _ => ⟨b, off + a, rfl, hb, fun i x hx j u hu => ?_⟩⟩
  rw [List.getElem?_take] at hx
  split at hx
  · rw [List.getElem?_drop] at hx
    have := hc (a + i) x hx j u hu
    rw [show off + a + i * 1 + j = off + (a + i) * 1 + j by omega]
    exact this
  · cases hx
/-- The answers. -/
def fbR (ws : List ByteArray) (wd : Int) : List Int × Int := if okW ws wd = true then (firstL wd.toNat ws, 0) else ([], 1)
def flR (ws : List ByteArray) (wd : Int) : Int × Int := if okW ws wd = true then (if ws.length = 0 then (0, 0) else (((firstL wd.toNat ws).length : Int) + 1, 0)) else (0, 1)
/-- Whether words need at most some lines in a width. -/
def enoughB (ws : List ByteArray) (k : Int) (wd : Nat) : Bool := okW ws (wd : Int) && decide (((firstL wd ws).length : Int) < k)
def leastW (ws : List ByteArray) (k : Int) : Nat → Nat → Int × Int
  | 0, _ => (0, 5)
  | f + 1, wd => if enoughB ws k wd = true then ((wd : Int), 0) else leastW ws k f (wd + 1)
def lwR (ws : List ByteArray) (k : Int) : Int × Int := if okW ws 80 = true then (if inR k 1 40 = true then leastW ws k 80 1 else (0, 2)) else (0, 1)
theorem first_nil (W : Nat) {ws : List ByteArray} (h : ws.length = 0) : firstL W ws = [] := by rw [firstL, h, brkL]
theorem enough_impl {ws : List ByteArray} {k : Int} {wd : Nat} (hk : 1 ≤ k) : enoughB ws k wd = (decide ((flR ws wd).2 = 0) && decide ((flR ws wd).1 ≤ k)) := by
  rw [enoughB, flR]
  cases h : okW ws (wd : Int) with
  | false => simp
  | true =>
    by_cases h0 : ws.length = 0
    · rw [first_nil _ h0]
      simp [h0]
      omega
    · rw [Int.toNat_natCast]
      simp [h0]
      omega
end Go.Proofs.Ytcaojaaooadeaaa
