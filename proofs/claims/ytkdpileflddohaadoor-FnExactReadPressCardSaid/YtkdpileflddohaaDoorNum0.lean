/- Numbers read from decimal texts: plain facts on lists of bytes; no program is named. -/
import Derived.Lib.ItoaNum
import Derived.Lib.ItoaMem
import Derived.Lib.ParseIntB
namespace Go.Proofs.YtkdpileflddohaaDoor
set_option linter.unusedVariables false
set_option linter.unusedSimpArgs false

def isDig (c : UInt8) : Bool := decide (48 ≤ c.toNat) && decide (c.toNat ≤ 57)
def digStep (a : Nat) (c : UInt8) : Nat := a * 10 + (c.toNat - 48)
def valFrom (acc : Nat) (l : List UInt8) : Nat := l.foldl digStep acc
theorem val_nil (acc : Nat) : valFrom acc [] = acc := List.foldl_nil
theorem val_cons (acc : Nat) (c : UInt8) (r : List UInt8) : valFrom acc (c :: r) = valFrom (acc * 10 + (c.toNat - 48)) r := List.foldl_cons
theorem valFrom_snoc (l : List UInt8) (c : UInt8) : ∀ (acc : Nat), valFrom acc (l ++ [c]) = valFrom acc l * 10 + (c.toNat - 48) := by
  induction l with
  | nil =>
    intro acc
    rw [List.nil_append, val_cons, val_nil, val_nil]
  | cons a r ih =>
    intro acc
    rw [List.cons_append, val_cons, val_cons, ih]
theorem valFrom_ge (l : List UInt8) : ∀ (acc : Nat), acc ≤ valFrom acc l := by
  induction l with
  | nil =>
    intro acc
    rw [val_nil]
    exact Nat.le_refl _
  | cons c r ih =>
    intro acc
    have h := ih (acc * 10 + (c.toNat - 48))
    rw [val_cons]
    omega
theorem step10 (a d P : Nat) (hd : d ≤ 9) : (a * 10 + d + 1) * P ≤ (a + 1) * (P * 10) := by
  rw [Nat.mul_comm P 10, ← Nat.mul_assoc]
  exact Nat.mul_le_mul_right _ (by omega)
theorem valFrom_lt (l : List UInt8) : ∀ (acc : Nat), (∀ c ∈ l, isDig c = true) → valFrom acc l < (acc + 1) * 10 ^ l.length := by
  induction l with
  | nil =>
    intro acc _
    rw [val_nil, List.length_nil, Nat.pow_zero]
    omega
  | cons c r ih =>
    intro acc h
    have hc : c.toNat - 48 ≤ 9 := by
      have hc := h c (List.mem_cons_self ..)
      simp [isDig] at hc
      omega
    have h1 := ih (acc * 10 + (c.toNat - 48)) fun x hx => h x (List.mem_cons_of_mem _ hx)
    rw [val_cons, List.length_cons, Nat.pow_succ]
    exact Nat.lt_of_lt_of_le h1 (step10 acc _ _ hc)

theorem parse_ok (M : Nat) (l : List UInt8) : ∀ (acc : Nat), (∀ c ∈ l, isDig c = true) → valFrom acc l < 1000000000000000000 → 1000000000000000000 ≤ M → Lib.parseUintM M acc l = .ok (valFrom acc l) := by
  induction l with
  | nil =>
    intro acc _ _ _
    rw [val_nil, Lib.parseUintM]
  | cons c r ih =>
    intro acc h hv hM
    have hc := h c (by simp)
    simp [isDig] at hc
    have h1 : acc * 10 + (c.toNat - 48) ≤ valFrom (acc * 10 + (c.toNat - 48)) r := valFrom_ge r _
    rw [val_cons] at hv ⊢
    rw [Lib.parseUintM, if_pos hc, if_neg (by omega), if_neg (by omega)]
    exact ih _ (fun x hx => h x (by simp [hx])) hv hM
theorem parse_bad (M : Nat) : ∀ (l : List UInt8) (acc v : Nat), ¬ (∀ c ∈ l, isDig c = true) → Lib.parseUintM M acc l ≠ .ok v
  | [], acc, v, h => absurd (fun c hc => by cases hc) h
  | c :: r, acc, v, h => by
    unfold Lib.parseUintM
    by_cases hc : 48 ≤ c.toNat ∧ c.toNat ≤ 57
    · rw [if_pos hc]
      split
      · intro h; cases h
      · split
        · intro h; cases h
        · refine parse_bad M r _ v fun hr => h fun x hx => ?_
          rcases List.mem_cons.1 hx with rfl | hx
          · simp [isDig, hc]
          · exact hr x hx
    · rw [if_neg hc]
      intro h
      cases h

/-- What is left behind a sign. -/
def unsigned (l : List UInt8) : List UInt8 := if l.head? = some 45 then l.tail else l
/-- The number of a text and whether it has one: a decimal form of at most 18 digits. -/
def numVal (l : List UInt8) : Int := if (unsigned l).length < l.length then -(valFrom 0 (unsigned l) : Int) else valFrom 0 (unsigned l)
def numOk (l : List UInt8) : Bool := decide (1 ≤ (unsigned l).length) && decide ((unsigned l).length ≤ 18) && (unsigned l).all isDig && (Lib.itoa (numVal l) == l)
def numAns (l : List UInt8) : Int := if numOk l then numVal l else 0

theorem unsigned_minus (r : List UInt8) : unsigned (45 :: r) = r := rfl
theorem unsigned_other {c : UInt8} (r : List UInt8) (h : c ≠ 45) : unsigned (c :: r) = c :: r := by
  unfold unsigned
  rw [if_neg (by simpa using h)]
theorem val_small {l : List UInt8} (h : ∀ c ∈ l, isDig c = true) (hl : l.length ≤ 18) : valFrom 0 l < 1000000000000000000 := by
  have h1 := valFrom_lt l 0 h
  have h2 : 10 ^ l.length ≤ 10 ^ 18 := Nat.pow_le_pow_right (by omega) hl
  omega

theorem itoa_head {v : Int} : (Lib.itoa v).head? ≠ some 43 := by
  have hd : ∀ u : Nat, (Lib.decDigits u).head? ≠ some 43 := by
    intro u
    induction u using Nat.strongRecOn with
    | ind u ih =>
      rw [Lib.decDigits]
      by_cases h : u < 10
      · rw [dif_pos h]
        intro e
        simp at e
        have := congrArg UInt8.toNat e
        simp at this
        omega
      · rw [dif_neg h]
        have := ih (u / 10) (by omega)
        intro e
        cases hq : Lib.decDigits (u / 10) with
        | nil =>
          rw [hq] at e
          simp at e
          have := congrArg UInt8.toNat e
          simp at this
          omega
        | cons a t =>
          rw [hq] at e this
          simp at e this
          exact this e
  unfold Lib.itoa
  split
  · simp
  · exact hd _

/-- strconv.ParseInt at a text that, behind a sign, has at most 18 bytes: it gives v just as the model reads it, or the text has no decimal form. -/
theorem parse_num {l : List UInt8} {v : Int} (h18 : (unsigned l).length ≤ 18) (h : Lib.parseIntB 64 l = .ok v) (hi : Lib.itoa v = l) : numOk l = true ∧ numVal l = v := by
  cases l with
  | nil => cases h
  | cons c r =>
    unfold Lib.parseIntB at h
    by_cases h43 : c.toNat = 43
    · have : c = 43 := by
        apply UInt8.toNat.inj
        simpa using h43
      subst this
      exact absurd (by rw [hi]; rfl) (itoa_head (v := v))
    · by_cases h45 : c.toNat = 45
      · have : c = 45 := by
          apply UInt8.toNat.inj
          simpa using h45
        subst this
        rw [unsigned_minus] at h18
        simp only [h45, or_true, if_true] at h
        by_cases hd : ∀ x ∈ r, isDig x = true
        · by_cases hr : r = []
          · subst hr
            simp [Lib.parseUintB] at h
          · have hp : Lib.parseUintB 64 r = .ok (valFrom 0 r) := by
              unfold Lib.parseUintB
              rw [if_neg hr]
              exact parse_ok _ r 0 hd (val_small hd h18) (by decide)
            have hs := val_small hd h18
            rw [hp] at h
            simp only [not_true_eq_false, false_and, if_false, true_and, if_true] at h
            rw [if_neg (by omega)] at h
            cases h
            have hv : numVal (45 :: r) = -(valFrom 0 r : Int) := by
              unfold numVal
              rw [unsigned_minus, if_pos (by simp)]
            refine ⟨?_, hv⟩
            unfold numOk
            rw [unsigned_minus, hv, hi]
            have : 1 ≤ r.length := by cases r with | nil => exact absurd rfl hr | cons _ _ => simp
            simp [this, h18]
            exact hd
        · exfalso
          unfold Lib.parseUintB at h
          by_cases hr : r = []
          · subst hr
            exact hd fun x hx => by cases hx
          · rw [if_neg hr] at h
            cases hp : Lib.parseUintM (2 ^ 64 - 1) 0 r with
            | ok u => exact parse_bad _ r 0 u hd hp
            | _ => rw [hp] at h; cases h
      · have hc45 : c ≠ 45 := fun e => h45 (by rw [e]; rfl)
        rw [unsigned_other r hc45] at h18
        simp only [h43, h45, or_self, if_false] at h
        have hne : (c :: r) ≠ [] := by simp
        by_cases hd : ∀ x ∈ c :: r, isDig x = true
        · have hp : Lib.parseUintB 64 (c :: r) = .ok (valFrom 0 (c :: r)) := by
            unfold Lib.parseUintB
            rw [if_neg hne]
            exact parse_ok _ _ 0 hd (val_small hd h18) (by decide)
          have hs := val_small hd h18
          rw [hp] at h
          simp only [not_false_eq_true, true_and, false_and, if_false] at h
          rw [if_neg (by omega)] at h
          cases h
          have hv : numVal (c :: r) = (valFrom 0 (c :: r) : Int) := by
            unfold numVal
            rw [unsigned_other r hc45, if_neg (by simp)]
          refine ⟨?_, hv⟩
          unfold numOk
          rw [unsigned_other r hc45, hv, hi]
          have h1 := hd c (by simp)
          have h2 : r.all isDig = true := List.all_eq_true.2 fun x hx => hd x (by simp [hx])
          simp [h1, h2]
          simpa using h18
        · exfalso
          unfold Lib.parseUintB at h
          rw [if_neg hne] at h
          cases hp : Lib.parseUintM (2 ^ 64 - 1) 0 (c :: r) with
          | ok u => exact parse_bad _ _ 0 u hd hp
          | _ => rw [hp] at h; cases h

/-- The other way: a text with a number is parsed. -/
theorem num_parse {l : List UInt8} (h : numOk l = true) : Lib.parseIntB 64 l = .ok (numVal l) ∧ Lib.itoa (numVal l) = l := by
  unfold numOk at h
  simp only [Bool.and_eq_true, decide_eq_true_eq, beq_iff_eq, List.all_eq_true] at h
  obtain ⟨⟨⟨h1, h18⟩, hd⟩, hi⟩ := h
  refine ⟨?_, hi⟩
  cases l with
  | nil => simp [unsigned] at h1
  | cons c r =>
    by_cases h45 : c = 45
    · subst h45
      rw [unsigned_minus] at h1 h18 hd
      have hs := val_small hd h18
      have hr : r ≠ [] := fun e => by subst e; simp at h1
      have hp : Lib.parseUintB 64 r = .ok (valFrom 0 r) := by
        unfold Lib.parseUintB
        rw [if_neg hr]
        exact parse_ok _ r 0 hd hs (by decide)
      have hv : numVal (45 :: r) = -(valFrom 0 r : Int) := by
        unfold numVal
        rw [unsigned_minus, if_pos (by simp)]
      rw [hv]
      unfold Lib.parseIntB
      simp only [show (45 : UInt8).toNat = 45 from rfl, or_true, if_true]
      rw [hp]
      simp only [not_true_eq_false, false_and, if_false, true_and, if_true]
      rw [if_neg (by omega)]
    · rw [unsigned_other r h45] at h1 h18 hd
      have hs := val_small hd h18
      have hc := hd c (by simp)
      simp [isDig] at hc
      have hp : Lib.parseUintB 64 (c :: r) = .ok (valFrom 0 (c :: r)) := by
        unfold Lib.parseUintB
        rw [if_neg (by simp)]
        exact parse_ok _ _ 0 hd hs (by decide)
      have hv : numVal (c :: r) = (valFrom 0 (c :: r) : Int) := by
        unfold numVal
        rw [unsigned_other r h45, if_neg (by simp)]
      rw [hv]
      unfold Lib.parseIntB
      have n43 : ¬ c.toNat = 43 := by omega
      have n45 : ¬ c.toNat = 45 := by omega
      simp only [n43, n45, or_self, if_false]
      rw [hp]
      simp only [not_false_eq_true, true_and, false_and, if_false]
      rw [if_neg (by omega)]
end Go.Proofs.YtkdpileflddohaaDoor
