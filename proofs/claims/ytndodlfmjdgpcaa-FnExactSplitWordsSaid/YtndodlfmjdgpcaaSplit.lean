/- SplitWords: parts of a text without blanks: the model's functions and the program's. -/
import Derived.Test.YtndodlfmjdgpcaaStrO
import Derived.Test.YtndodlfmjdgpcaaShelf
import Derived.Laws.OwnMore
namespace Go.Proofs.Ytndodlfmjdgpcaa
open Go.RowKit
set_option linter.unusedVariables false
set_option linter.unusedSimpArgs false

/-- The parts between blanks, as places: from 'pos' on, f bytes further, the part begun at 'a'. -/
def spB (s : ByteArray) : Nat → Nat → Nat → List (Nat × Nat)
  | 0, pos, a => [(a, pos)]
  | f + 1, pos, a => if h : pos < s.size then (if (s[pos]'h).toNat = 32 then (a, pos) :: spB s f (pos + 1) (pos + 1) else spB s f (pos + 1) a) else [(a, pos)]
/-- The words: 'st' is where a word has begun. -/
def wdB (s : ByteArray) : Nat → Nat → Option Nat → List (Nat × Nat)
  | 0, pos, st => match st with | some a => [(a, pos)] | none => []
  | f + 1, pos, st => if h : pos < s.size then (if (s[pos]'h).toNat = 32 then (match st with | some a => (a, pos) :: wdB s f (pos + 1) none | none => wdB s f (pos + 1) none) else wdB s f (pos + 1) (some (st.getD pos))) else (match st with | some a => [(a, pos)] | none => [])
def longB (x : Nat × Nat) : Bool := decide (x.1 < x.2)
theorem sp_wd (s : ByteArray) : ∀ (f pos a : Nat), a ≤ pos → (spB s f pos a).filter longB = wdB s f pos (if a < pos then some a else none)
  | 0, pos, a, h => by
    unfold spB wdB
    by_cases h1 : a < pos
    · rw [if_pos h1, List.filter_cons_of_pos (by simp [longB, h1])]
      rfl
    · rw [if_neg h1, List.filter_cons_of_neg (by simp [longB, h1])]
      rfl
  | f + 1, pos, a, h => by
    unfold spB wdB
    by_cases hp : pos < s.size
    · rw [dif_pos hp, dif_pos hp]
      by_cases hb : (s[pos]'hp).toNat = 32
      · rw [if_pos hb, if_pos hb]
        have ih := sp_wd s f (pos + 1) (pos + 1) (Nat.le_refl _)
        rw [if_neg (by omega)] at ih
        by_cases h1 : a < pos
        · rw [if_pos h1, List.filter_cons_of_pos (by simp [longB, h1]), ih]
        · rw [if_neg h1, List.filter_cons_of_neg (by simp [longB, h1]), ih]
      · rw [if_neg hb, if_neg hb]
        have ih := sp_wd s f (pos + 1) a (by omega)
        rw [if_pos (by omega)] at ih
        rw [ih]
        congr 1
        by_cases h1 : a < pos
        · rw [if_pos h1]
          rfl
        · rw [if_neg h1]
          have : a = pos := by omega
          rw [this]
          rfl
    · rw [dif_neg hp, dif_neg hp]
      by_cases h1 : a < pos
      · rw [if_pos h1, List.filter_cons_of_pos (by simp [longB, h1])]
        rfl
      · rw [if_neg h1, List.filter_cons_of_neg (by simp [longB, h1])]
        rfl
theorem wd_succ (s : ByteArray) (f pos : Nat) (st : Option Nat) : wdB s (f + 1) pos st = if h : pos < s.size then (if (s[pos]'h).toNat = 32 then (match st with | some a => (a, pos) :: wdB s f (pos + 1) none | none => wdB s f (pos + 1) none) else wdB s f (pos + 1) (some (st.getD pos))) else (match st with | some a => [(a, pos)] | none => []) := rfl
/-- Bytes that are no blanks are passed. -/
theorem wd_skip (s : ByteArray) : ∀ (k f pos : Nat) (st : Option Nat), k ≤ f → pos + k ≤ s.size → (∀ j (hj : j < s.size), pos ≤ j → j < pos + k → (s[j]'hj).toNat ≠ 32) → 0 < k → wdB s f pos st = wdB s (f - k) (pos + k) (some (st.getD pos))
  | 0, _, _, _, _, _, _, h => absurd h (by omega)
  | k + 1, 0, _, _, h, _, _, _ => absurd h (by omega)
  | k + 1, f + 1, pos, st, hk, hs, hb, _ => by
    have hp : pos < s.size := by omega
    rw [wd_succ, dif_pos hp, if_neg (hb pos hp (Nat.le_refl _) (by omega))]
    by_cases h0 : k = 0
    · subst h0
      rfl
    · rw [wd_skip s k f (pos + 1) (some (st.getD pos)) (by omega) (by omega) (fun j hj h1 h2 => hb j hj (by omega) (by omega)) (by omega)]
      rw [show f + 1 - (k + 1) = f - k by omega, show pos + (k + 1) = pos + 1 + k by omega]
      rfl
/-- The bytes of a rune beyond ASCII are no blanks. -/
theorem rune_fit (s : ByteArray) (pos : Nat) (h : pos < s.size) : pos + (Utf8.decode s pos).2 ≤ s.size := by
  have hc : ∀ k, (decide (pos + k < s.size) && ((s.get! (pos + k)).toNat / 64 == 2)) = true → pos + k < s.size := fun k hk => by
    rw [Bool.and_eq_true, decide_eq_true_eq] at hk
    exact hk.1
  unfold Utf8.decode
  simp only
  split
  · simp only; omega
  · split
    · rename_i hw
      rw [Bool.and_eq_true] at hw
      have k1 := hc 1 hw.2
      split <;> simp only <;> omega
    · split
      · rename_i _ hw
        rw [Bool.and_eq_true, Bool.and_eq_true] at hw
        have k2 := hc 2 hw.2
        split <;> simp only <;> omega
      · split
        · rename_i _ _ hw
          rw [Bool.and_eq_true, Bool.and_eq_true, Bool.and_eq_true] at hw
          have k3 := hc 3 hw.2
          split <;> simp only <;> omega
        · simp only; omega
theorem rune_bytes (s : ByteArray) (pos : Nat) (h : pos < s.size) (ha : 128 ≤ (s[pos]'h).toNat) : ∀ j (hj : j < s.size), pos ≤ j → j < pos + (Utf8.decode s pos).2 → 128 ≤ (s[j]'hj).toNat := by
  have hget : ∀ k (hk : pos + k < s.size), s.get! (pos + k) = s[pos + k]'hk := fun k hk => by
    simp [ByteArray.get!, getElem!_pos, hk]
    rfl
  have h0 : (s.get! (pos + 0)).toNat = (s[pos]'h).toNat := by rw [hget 0 h]; rfl
  have hc : ∀ k, (decide (pos + k < s.size) && ((s.get! (pos + k)).toNat / 64 == 2)) = true → ∃ hk : pos + k < s.size, 128 ≤ (s[pos + k]'hk).toNat := fun k hk => by
    rw [Bool.and_eq_true, decide_eq_true_eq, beq_iff_eq] at hk
    refine ⟨hk.1, ?_⟩
    have := hk.2
    rw [hget k hk.1] at this
    omega
  intro j hj h1 h2
  obtain ⟨i, rfl⟩ : ∃ i, j = pos + i := ⟨j - pos, by omega⟩
  by_cases hi0 : i = 0
  · subst hi0
    exact ha
  · unfold Utf8.decode at h2
    simp only [h0] at h2
    rw [if_neg (by omega)] at h2
    split at h2
    · rename_i hw
      rw [Bool.and_eq_true] at hw
      obtain ⟨k1, c1⟩ := hc 1 hw.2
      split at h2
      · obtain rfl : i = 1 := by simp at h2; omega
        exact c1
      · simp at h2; omega
    · split at h2
      · rename_i _ hw
        rw [Bool.and_eq_true, Bool.and_eq_true] at hw
        obtain ⟨k1, c1⟩ := hc 1 hw.1.2
        obtain ⟨k2, c2⟩ := hc 2 hw.2
        split at h2
        · have : i = 1 ∨ i = 2 := by simp at h2; omega
          rcases this with rfl | rfl
          · exact c1
          · exact c2
        · simp at h2; omega
      · split at h2
        · rename_i _ _ hw
          rw [Bool.and_eq_true, Bool.and_eq_true, Bool.and_eq_true] at hw
          obtain ⟨k1, c1⟩ := hc 1 hw.1.1.2
          obtain ⟨k2, c2⟩ := hc 2 hw.1.2
          obtain ⟨k3, c3⟩ := hc 3 hw.2
          split at h2
          · have : i = 1 ∨ i = 2 ∨ i = 3 := by simp at h2; omega
            rcases this with rfl | rfl | rfl
            · exact c1
            · exact c2
            · exact c3
          · simp at h2; omega
        · simp at h2; omega
def isBl (r : Nat) : Bool := r == 32
theorem spans_succ (p : Nat → Bool) (s : ByteArray) (f pos : Nat) (st : Option Nat) (acc : List (Nat × Nat)) : Lib.spansFromP p s (f + 1) pos st acc = if pos < s.size then (if p (Utf8.decode s pos).1 then (match st with | some a => Lib.spansFromP p s f (pos + (Utf8.decode s pos).2) none (acc ++ [(a, pos)]) | none => Lib.spansFromP p s f (pos + (Utf8.decode s pos).2) none acc) else (match st with | some a => Lib.spansFromP p s f (pos + (Utf8.decode s pos).2) (some a) acc | none => Lib.spansFromP p s f (pos + (Utf8.decode s pos).2) (some pos) acc)) else (acc, st) := rfl
theorem go_wd (s : ByteArray) : ∀ (n f pos : Nat) (st : Option Nat) (acc : List (Nat × Nat)), s.size - pos ≤ n → s.size - pos ≤ f → pos ≤ s.size → Lib.closeSpans s (Lib.spansFromP isBl s f pos st acc) = acc ++ wdB s (s.size - pos) pos st := by
  intro n
  induction n with
  | zero =>
    intro f pos st acc h0 hf hp
    have : ¬ pos < s.size := by omega
    rw [Lib.spansFromP_end _ _ _ _ _ _ this, show s.size - pos = 0 by omega]
    have hpe : pos = s.size := by omega
    cases st with
    | none => simp [Lib.closeSpans, wdB]
    | some a => simp [Lib.closeSpans, wdB, hpe]
  | succ n ih =>
    intro f pos st acc h0 hf hp
    by_cases hlt : pos < s.size
    · obtain ⟨f', rfl⟩ : ∃ f', f = f' + 1 := ⟨f - 1, by omega⟩
      by_cases ha : (s[pos]'hlt).toNat < 128
      · have hd := decode_ascii s pos hlt ha
        rw [spans_succ, if_pos hlt, hd]
        simp only
        have hw : s.size - pos = (s.size - (pos + 1)) + 1 := by omega
        rw [hw, wd_succ, dif_pos hlt]
        by_cases hb : (s[pos]'hlt).toNat = 32
        · rw [if_pos hb, if_pos (show isBl _ = true by rw [hb]; rfl)]
          cases st with
          | none => exact ih f' (pos + 1) none acc (by omega) (by omega) (by omega)
          | some a =>
            simp only
            rw [ih f' (pos + 1) none _ (by omega) (by omega) (by omega), List.append_assoc]
            rfl
        · rw [if_neg hb, if_neg (show ¬ isBl _ = true by unfold isBl; simpa using hb)]
          cases st with
          | none => exact ih f' (pos + 1) (some pos) acc (by omega) (by omega) (by omega)
          | some a => exact ih f' (pos + 1) (some a) acc (by omega) (by omega) (by omega)
      · have hh := decode_high s pos hlt (by omega)
        have hby := rune_bytes s pos hlt (by omega)
        have hwd : pos + (Utf8.decode s pos).2 ≤ s.size := rune_fit s pos hlt
        rw [spans_succ, if_pos hlt, if_neg (show ¬ isBl _ = true by unfold isBl; simp; omega)]
        rw [wd_skip s (Utf8.decode s pos).2 (s.size - pos) pos st (by omega) hwd (fun j hj h1 h2 => by have := hby j hj h1 h2; omega) (by omega)]
        rw [show s.size - pos - (Utf8.decode s pos).2 = s.size - (pos + (Utf8.decode s pos).2) by omega]
        cases st with
        | none => exact ih f' _ (some pos) acc (by omega) (by omega) hwd
        | some a => exact ih f' _ (some a) acc (by omega) (by omega) hwd
    · exact ih f pos st acc (by omega) hf hp
end Go.Proofs.Ytndodlfmjdgpcaa
