/- Moves of the carriage: the model's least ways. -/
import Derived.Test.YtijelimpkcnbjaaTm2
namespace Go.Proofs.Ytijelimpkcnbjaa
open Go.RowKit Go.ChangeShapes Go.WideShapes Go.Deep
set_option linter.unusedVariables false
set_option linter.unusedSimpArgs false

theorem way_fuel {ps : List Int} {to : Nat} {D : Nat → Int} (h : IsFar ps to D) : ∀ (f a : Nat), a ≤ 30 → D a ≤ (f : Int) → wayL ps D f a = wayL ps D (D a).toNat a
  | 0, a, ha, hf => by have := h.pos a ha; rw [show (D a).toNat = 0 by omega]
  | f + 1, a, ha, hf => by
    have hp := h.pos a ha
    by_cases h0 : D a ≤ 0
    · rw [show (D a).toNat = 0 by omega]
      show wayL ps D (f + 1) a = []
      rw [wayL, if_pos h0]
    · obtain ⟨_, n, hn, hn30, hd⟩ := first_ok h ha (by omega)
      obtain ⟨d, hdd⟩ : ∃ d, (D a).toNat = d + 1 := ⟨(D a).toNat - 1, by omega⟩
      rw [hdd, way_step h ha (by omega) hn f, way_step h ha (by omega) hn d, way_fuel h f n hn30 (by omega), show (D n).toNat = d by omega]
/-- The way by its own length. -/
def wayX (ps : List Int) (D : Nat → Int) (a : Nat) : List UInt8 := wayL ps D (D a).toNat a
theorem wayX_end {ps : List Int} {D : Nat → Int} {a : Nat} (h : D a ≤ 0) : wayX ps D a = [] := by rw [wayX, show (D a).toNat = 0 by omega, wayL]
theorem wayX_step {ps : List Int} {to : Nat} {D : Nat → Int} (h : IsFar ps to D) {a n : Nat} (ha : a ≤ 30) (hp : 0 < D a) (hn : nextP ps a (mvB (firstK ps D a)) = (n : Int)) : wayX ps D a = mvB (firstK ps D a) :: wayX ps D n ∧ D a = D n + 1 := by
  obtain ⟨_, m, hm, hm30, hd⟩ := first_ok h ha hp
  obtain rfl : m = n := by have := hm.symm.trans hn; omega
  refine ⟨?_, hd⟩
  obtain ⟨d, hdd⟩ : ∃ d, (D a).toNat = d + 1 := ⟨(D a).toNat - 1, by omega⟩
  rw [wayX, hdd, way_step h ha hp hn d, wayX, show (D m).toNat = d by omega]
def goodK (ps : List Int) (D : Nat → Int) (a j : Nat) : Prop := 0 ≤ nextP ps a (mvB j) ∧ D (nextP ps a (mvB j)).toNat + 1 = D a
theorem first_is {ps : List Int} {D : Nat → Int} {a k : Nat} (hk : k < 3) (hno : ∀ j, j < k → ¬ goodK ps D a j) (hg : goodK ps D a k) : firstK ps D a = k := by
  unfold firstK
  match k, hk with
  | 0, _ => exact if_pos hg
  | 1, _ =>
    have h0 := hno 0 (by omega)
    unfold goodK at h0
    rw [if_neg h0]
    exact if_pos hg
  | 2, _ =>
    have h0 := hno 0 (by omega)
    have h1 := hno 1 (by omega)
    unfold goodK at h0 h1
    rw [if_neg h0, if_neg h1]
theorem way_farP {ps : List Int} {to : Nat} {D : Nat → Int} (hto : to ≤ 30) (h : IsFar ps to D) {a : Nat} (ha : a ≤ 30) : wayX ps D a = wayP ps to a := by
  have hF := h.far hto
  have hag : ∀ f b, b ≤ 30 → wayL ps D f b = wayL ps (farP ps to) f b := by
    intro f
    induction f with
    | zero => intro b _; rfl
    | succ f ih =>
      intro b hb
      have hk : firstK ps D b = firstK ps (farP ps to) b := by
        have hg : ∀ j, (0 ≤ nextP ps b (mvB j) ∧ D (nextP ps b (mvB j)).toNat + 1 = D b) ↔ (0 ≤ nextP ps b (mvB j) ∧ farP ps to (nextP ps b (mvB j)).toNat + 1 = farP ps to b) := fun j => by
          refine and_congr_right fun hj => ?_
          have h30 : (nextP ps b (mvB j)).toNat ≤ 30 := by rcases nextP_range ps b (mvB j) with h1 | h1 <;> omega
          rw [h.eq h30, h.eq hb]
        unfold firstK
        simp only [hg]
      rw [wayL, wayL, h.eq hb, hk]
      split
      · rfl
      · rename_i h0
        obtain ⟨_, n, hn, hn30, _⟩ := first_ok hF hb (by omega)
        rw [hn, Int.toNat_natCast, ih n hn30]
  have h30 := far_30 hto hF.zero hF.step ha
  rw [wayP, wayX, hag _ a ha, h.eq ha, ← way_fuel hF 31 a ha (by omega)]
theorem wayX_len {ps : List Int} {to : Nat} {D : Nat → Int} (h : IsFar ps to D) {a : Nat} (ha : a ≤ 30) : ((wayX ps D a).length : Int) = D a := way_len h _ a ha (by have := h.pos a ha; omega)
end Go.Proofs.Ytijelimpkcnbjaa
