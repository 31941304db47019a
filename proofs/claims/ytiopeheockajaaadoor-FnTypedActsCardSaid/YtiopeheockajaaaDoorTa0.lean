/- What stands there of acts that type a line, and what LineOf says of it: plain data. -/
import Derived.Test.YtiopeheockajaaaDoorAfl0
import Derived.Test.YtiopeheockajaaaDoorCar0
import Derived.Test.YtiopeheockajaaaDoorLine0
namespace Go.Proofs.YtiopeheockajaaaDoor
open Go.RowKit
set_option linter.unusedVariables false
set_option linter.unusedSimpArgs false

def outsL (a : Int) : List UInt8 → List StruckD
  | [] => []
  | b :: l => if b = 32 then outsL (a + 2) l else ⟨a, ⟨#[b]⟩⟩ :: outsL (a + 2) l
theorem outs_len : ∀ (l : List UInt8) (a : Int), (outsL a l).length ≤ l.length
  | [], a => Nat.le_refl _
  | b :: l, a => by
    have := outs_len l (a + 2)
    unfold outsL
    split
    · simp; omega
    · simp; omega
theorem act_blank {c : CarriageD} {s : StD} {x : UInt8} (hx : x = 32) (hr : c.right ≤ 300) (hf : s.free = false) (ha : s.at_ + 2 ≤ c.right) : ∃ b, actS c s (actB x) = some ⟨s.at_ + 2, false, b, s.out⟩ := by
  refine ⟨s.bells + (if s.at_ < c.bell ∧ c.bell ≤ s.at_ + 2 then 1 else 0), ?_⟩
  have hn : ¬ (300 < s.at_ + 2 ∨ (s.free = false ∧ c.right < s.at_ + 2)) := by omega
  rw [actB, if_pos hx]
  simp only [actS, stepOf]
  simp [hn, hf]
  omega
theorem act_letter {c : CarriageD} {s : StD} {x : UInt8} (hx : ¬ x = 32) (hr : c.right ≤ 300) (hf : s.free = false) (ha : s.at_ + 2 ≤ c.right) : ∃ b, actS c s (actB x) = some ⟨s.at_ + 2, false, b, s.out ++ [⟨s.at_, ⟨#[x]⟩⟩]⟩ := by
  refine ⟨s.bells + (if s.at_ < c.bell ∧ c.bell ≤ s.at_ + 2 then 1 else 0), ?_⟩
  rw [actB, if_neg hx]
  simp only [actS, stepOf]
  simp [hf]
  omega
theorem run_line (c : CarriageD) (hr : c.right ≤ 300) : ∀ (l : List UInt8) (s : StD), s.free = false → s.at_ + 2 * (l.length : Int) ≤ c.right → ∃ b, runS c s (aflL l) = (⟨s.at_ + 2 * (l.length : Int), false, b, s.out ++ outsL s.at_ l⟩, l.length)
  | [], s, hf, ha => ⟨s.bells, by
    obtain ⟨a, f, b, o⟩ := s
    simp only at hf
    subst hf
    simp [aflL, runS, outsL]⟩
  | x :: l, s, hf, ha => by
    rw [List.length_cons] at ha
    by_cases hx : x = 32
    · obtain ⟨b, hb⟩ := act_blank (c := c) hx hr hf (by omega)
      obtain ⟨b2, h2⟩ := run_line c hr l ⟨s.at_ + 2, false, b, s.out⟩ rfl (by simp only; omega)
      refine ⟨b2, ?_⟩
      have e : aflL (x :: l) = actB x :: aflL l := rfl
      rw [e, runS, hb]
      simp only
      rw [h2]
      simp only [outsL, if_pos hx, List.length_cons, Prod.mk.injEq, StD.mk.injEq, true_and, and_true]
      omega
    · obtain ⟨b, hb⟩ := act_letter (c := c) hx hr hf (by omega)
      obtain ⟨b2, h2⟩ := run_line c hr l ⟨s.at_ + 2, false, b, s.out ++ [⟨s.at_, ⟨#[x]⟩⟩]⟩ rfl (by simp only; omega)
      refine ⟨b2, ?_⟩
      have e : aflL (x :: l) = actB x :: aflL l := rfl
      rw [e, runS, hb]
      simp only
      rw [h2]
      simp only [outsL, if_neg hx, List.length_cons, Prod.mk.injEq, StD.mk.injEq, true_and, and_true, List.append_assoc, List.singleton_append]
      omega
/-- What LineOf makes of it. -/
def lineX (acc : List UInt8) (k : Nat) : List UInt8 → List UInt8
  | [] => acc
  | b :: l => if b = 32 then lineX acc (k + 1) l else lineX (pad acc k ++ [b]) (k + 1) l
theorem pad_step {acc : List UInt8} {k : Nat} (h : acc.length ≤ k) : pad acc (k + 1) = pad acc k ++ [32] := by
  unfold pad
  rw [show k + 1 - acc.length = (k - acc.length) + 1 by omega, List.replicate_succ']
  simp
theorem pad_self (acc : List UInt8) (k : Nat) (h : k ≤ acc.length) : pad acc k = acc := by
  unfold pad
  rw [show k - acc.length = 0 by omega]
  simp
theorem pad_len {acc : List UInt8} {k : Nat} (h : acc.length ≤ k) : (pad acc k).length = k := by rw [pad_length]; omega
theorem line_outs (c : CarriageD) : ∀ (l : List UInt8) (acc : List UInt8) (k : Nat), acc.length ≤ k → lineGo c acc (outsL (c.left + 2 * (k : Int)) l) = (lineX acc k l, 0)
  | [], acc, k, h => rfl
  | b :: l, acc, k, h => by
    unfold outsL lineX
    have e : c.left + 2 * (k : Int) + 2 = c.left + 2 * ((k + 1 : Nat) : Int) := by omega
    rw [e]
    by_cases hb : b = 32
    · rw [if_pos hb, if_pos hb]
      exact line_outs c l acc (k + 1) (by omega)
    · rw [if_neg hb, if_neg hb]
      have hi : idxOf c ⟨c.left + 2 * (k : Int), ⟨#[b]⟩⟩ = k := by unfold idxOf; simp only; omega
      have ho : ¬ ((⟨c.left + 2 * (k : Int), ⟨#[b]⟩⟩ : StruckD).place < c.left ∨ oddAt c ⟨c.left + 2 * (k : Int), ⟨#[b]⟩⟩ = true) := by
        unfold oddAt
        simp only
        rw [show c.left + 2 * (k : Int) - c.left = 2 * (k : Int) by omega]
        intro q
        rcases q with q | q
        · omega
        · have : (2 * (k : Int)).tmod 2 = 0 := by rw [Int.mul_tmod_right]
          rw [this] at q
          cases q
      have hg : (pad acc (k + 1))[k]? = some 32 := by
        rw [pad_step h, List.getElem?_append_right (Nat.le_of_eq (pad_len h)), pad_len h]
        simp
      have hs : (pad acc (k + 1)).set k b = pad acc k ++ [b] := by
        rw [pad_step h, List.set_append_right _ _ (Nat.le_of_eq (pad_len h)), pad_len h]
        simp
      have hb0 : byte0 ⟨#[b]⟩ = b := rfl
      rw [lineGo, if_neg ho]
      simp only [hi, hg, hb0, hs, ne_eq, not_true_eq_false, if_false]
      exact line_outs c l _ (k + 1) (by rw [List.length_append, pad_len h]; simp)
theorem lineX_last : ∀ (l : List UInt8) (acc : List UInt8) (k : Nat), acc.length ≤ k → (∃ b, l.getLast? = some b ∧ ¬ b = 32) → lineX acc k l = pad acc k ++ l
  | [], acc, k, h, hl => by obtain ⟨b, hb, _⟩ := hl; cases hb
  | [b], acc, k, h, hl => by
    obtain ⟨b', hb, hne⟩ := hl
    have e : b = b' := by simpa using hb
    subst e
    rw [lineX, if_neg hne, lineX]
  | b :: b' :: l, acc, k, h, hl => by
    have hl' : ∃ x, (b' :: l).getLast? = some x ∧ ¬ x = 32 := by
      obtain ⟨x, hx, hne⟩ := hl
      exact ⟨x, by rw [List.getLast?_cons_cons] at hx; exact hx, hne⟩
    rw [lineX]
    split
    · rename_i hb
      rw [lineX_last (b' :: l) acc (k + 1) (by omega) hl', pad_step h, hb]
      simp
    · rw [lineX_last (b' :: l) _ (k + 1) (by rw [List.length_append, pad_len h]; simp) hl', pad_self _ _ (by rw [List.length_append, pad_len h]; simp)]
      simp
theorem trim_last (l : List UInt8) : trimL l = [] ∨ ∃ b, (trimL l).getLast? = some b ∧ ¬ b = 32 := by
  unfold trimL Lib.trimRightB
  cases hd : l.reverse.dropWhile (· == 32) with
  | nil => exact .inl rfl
  | cons x r =>
    refine .inr ⟨x, by simp, fun hx => ?_⟩
    have := List.head?_dropWhile_not (· == 32) l.reverse
    rw [hd] at this
    simp [hx] at this
theorem lineX_trim (l : List UInt8) : lineX [] 0 (trimL l) = trimL l := by
  rcases trim_last l with h | h
  · rw [h]; rfl
  · rw [lineX_last _ [] 0 (Nat.le_refl _) h]
    simp [pad]
end Go.Proofs.YtiopeheockajaaaDoor
