/- Racks of stops: what setting, clearing and the next stop give, without a program. -/
import Derived.Test.YtijelimpkcnbjaaTabW
namespace Go.Proofs.Ytijelimpkcnbjaa
set_option linter.unusedVariables false
set_option linter.unusedSimpArgs false

/-- How many numbers in front are less than c. -/
def lowI8 (c : Int) : List Int → Nat
  | [] => 0
  | x :: r => if x < c then lowI8 c r + 1 else 0
/-- The model's way to put a number in its place. -/
def put8 (m : Int) : Bool → List Int → List Int
  | d, [] => if d = true then [] else [m]
  | d, x :: r => if d = false ∧ m ≤ x then (if m < x then m :: x :: put8 m true r else x :: put8 m true r) else x :: put8 m d r
theorem put8_true (m : Int) : ∀ l : List Int, put8 m true l = l
  | [] => rfl
  | x :: r => by simp [put8, put8_true m r]
theorem lowI8_le (c : Int) : ∀ xs : List Int, lowI8 c xs ≤ xs.length
  | [] => Nat.le_refl _
  | x :: r => by
    have := lowI8_le c r
    simp only [lowI8, List.length_cons]
    split <;> omega
theorem rises_ge {hi : Int} : ∀ {xs : List Int} {lo : Int}, risesB hi lo xs = true → ∀ x ∈ xs, lo ≤ x ∧ x ≤ hi
  | [], _, _, x, hx => by cases hx
  | y :: r, lo, h, x, hx => by
    simp only [risesB, Bool.and_eq_true, inR_iff] at h
    rcases List.mem_cons.1 hx with rfl | hx
    · omega
    · have := rises_ge h.2 x hx
      omega
theorem rises_lt {hi : Int} : ∀ {xs : List Int} {lo : Int}, risesB hi lo xs = true → ∀ (a b : Nat) (x y : Int), a < b → xs[a]? = some x → xs[b]? = some y → x < y
  | [], _, _, a, b, x, y, _, hx, _ => by simp at hx
  | z :: r, lo, h, a, 0, x, y, hab, hx, hy => by omega
  | z :: r, lo, h, 0, b + 1, x, y, hab, hx, hy => by
    simp only [risesB, Bool.and_eq_true, inR_iff] at h
    simp at hx hy
    subst hx
    have := rises_ge h.2 y (List.mem_of_getElem? hy)
    omega
  | z :: r, lo, h, a + 1, b + 1, x, y, hab, hx, hy => by
    simp only [risesB, Bool.and_eq_true, inR_iff] at h
    simp at hx hy
    exact rises_lt h.2 a b x y (by omega) hx hy
/-- Where a search ends. -/
theorem lowI8_end (c : Int) : ∀ (xs : List Int) (i : Nat), i ≤ xs.length → (∀ q x, q < i → xs[q]? = some x → x < c) → (∀ q x, i ≤ q → xs[q]? = some x → ¬ x < c) → i = lowI8 c xs
  | [], i, h, _, _ => by simp at h; subst h; rfl
  | x :: r, 0, _, _, h2 => by
    have := h2 0 x (by omega) rfl
    simp [lowI8, this]
  | x :: r, i + 1, h, h1, h2 => by
    have h3 := h1 0 x (by omega) rfl
    have h4 := lowI8_end c r i (by simpa using h) (fun q y hq hy => h1 (q + 1) y (by omega) (by simpa using hy)) (fun q y hq hy => h2 (q + 1) y (by omega) (by simpa using hy))
    simp only [lowI8, if_pos h3]
    omega
theorem not_mem_of_gt {c : Int} {xs : List Int} (h : ∀ x ∈ xs, c < x) : xs.contains c = false := by
  cases hq : xs.contains c with
  | false => rfl
  | true => have := h c (by simpa using hq); omega
theorem has_low {hi c : Int} : ∀ {xs : List Int} {lo : Int}, risesB hi lo xs = true → xs.contains c = (xs[lowI8 c xs]? == some c)
  | [], _, _ => rfl
  | x :: r, lo, h => by
    simp only [risesB, Bool.and_eq_true, inR_iff] at h
    have hge := rises_ge h.2
    by_cases h1 : x < c
    · simp only [lowI8, if_pos h1, List.getElem?_cons_succ, List.contains_cons]
      rw [← has_low h.2]
      have : (c == x) = false := by simp; omega
      rw [this, Bool.false_or]
    · simp only [lowI8, if_neg h1, List.getElem?_cons_zero, List.contains_cons]
      by_cases h2 : c = x
      · subst h2; simp
      · have h3 : (c == x) = false := by simpa using h2
        rw [h3, Bool.false_or, not_mem_of_gt (fun y hy => by have := hge y hy; omega)]
        symm
        simp
        omega
theorem put8_low {hi c : Int} : ∀ {xs : List Int} {lo : Int}, risesB hi lo xs = true → xs.contains c = false → put8 c false xs = xs.take (lowI8 c xs) ++ [c] ++ xs.drop (lowI8 c xs)
  | [], _, _, _ => rfl
  | x :: r, lo, h, hc => by
    simp only [risesB, Bool.and_eq_true, inR_iff] at h
    simp only [List.contains_cons, Bool.or_eq_false_iff] at hc
    have hcx : c ≠ x := by simpa using hc.1
    have ih := put8_low h.2 hc.2
    by_cases h1 : x < c
    · simp only [lowI8, if_pos h1, put8, List.take_succ_cons, List.drop_succ_cons, List.cons_append]
      rw [if_neg (fun h => by have := h.2; omega), ih]
    · simp only [lowI8, if_neg h1, put8]
      rw [if_pos (by simp; omega), if_pos (by omega), put8_true]
      rfl
theorem clear_low {hi c : Int} : ∀ {xs : List Int} {lo : Int}, risesB hi lo xs = true → xs.contains c = true → xs.filter (fun x => x != c) = xs.take (lowI8 c xs) ++ xs.drop (lowI8 c xs + 1)
  | [], _, _, hc => by simp at hc
  | x :: r, lo, h, hc => by
    simp only [risesB, Bool.and_eq_true, inR_iff] at h
    have hge := rises_ge h.2
    by_cases h1 : x < c
    · have hcx : (c == x) = false := by simp; omega
      have hxc : (x != c) = true := by simp; omega
      simp only [List.contains_cons, hcx, Bool.false_or] at hc
      simp only [lowI8, if_pos h1, List.take_succ_cons, List.drop_succ_cons, List.cons_append, List.filter_cons, hxc, if_true]
      rw [clear_low h.2 hc]
    · by_cases h2 : c = x
      · subst h2
        simp only [lowI8, if_neg h1, List.filter_cons, bne_self_eq_false, List.take_zero, List.nil_append, Nat.zero_add, List.drop_succ_cons, List.drop_zero]
        rw [if_neg (by decide)]
        exact List.filter_eq_self.2 fun y hy => by have := hge y hy; simp; omega
      · have h3 : (c == x) = false := by simpa using h2
        rw [List.contains_cons, h3, Bool.false_or, not_mem_of_gt (fun y hy => by have := hge y hy; omega)] at hc
        cases hc
theorem next_low {hi c : Int} : ∀ {xs : List Int} {lo : Int}, risesB hi lo xs = true → xs.find? (fun x => decide (c < x)) = xs[lowI8 c xs + (if xs.contains c then 1 else 0)]?
  | [], _, _ => rfl
  | x :: r, lo, h => by
    simp only [risesB, Bool.and_eq_true, inR_iff] at h
    have hge := rises_ge h.2
    by_cases h1 : x < c
    · have hcx : (c == x) = false := by simp; omega
      have hxc : decide (c < x) = false := by simp; omega
      simp only [lowI8, if_pos h1, List.contains_cons, hcx, Bool.false_or, List.find?_cons, hxc]
      rw [next_low h.2, show lowI8 c r + 1 + (if r.contains c = true then 1 else 0) = lowI8 c r + (if r.contains c = true then 1 else 0) + 1 by omega, List.getElem?_cons_succ]
    · by_cases h2 : c = x
      · subst h2
        have hxc : decide (c < c) = false := by simp
        simp only [lowI8, if_neg h1, List.contains_cons, beq_self_eq_true, Bool.true_or, if_true, List.find?_cons, hxc, Nat.zero_add, List.getElem?_cons_succ]
        cases r with
        | nil => rfl
        | cons z s =>
          have := hge z (by simp)
          simp [List.find?_cons, show c < z by omega]
      · have h3 : (c == x) = false := by simpa using h2
        have hxc : decide (c < x) = true := by simp; omega
        simp only [lowI8, if_neg h1, List.contains_cons, h3, Bool.false_or, not_mem_of_gt (fun y hy => by have := hge y hy; omega : ∀ y ∈ r, c < y), List.find?_cons, hxc]
        rfl

def rackCode (ps : List Int) (c : Int) : Int := if rackB ps = true then (if inR c 0 119 = true then 0 else 2) else 1
def setR (ps : List Int) (c : Int) : List Int × Int :=
  if rackCode ps c = 0 then (if ps.contains c then ([], 4) else if 12 ≤ ps.length then ([], 5) else (put8 c false ps, 0)) else ([], rackCode ps c)
def clearR (ps : List Int) (c : Int) : List Int × Int :=
  if rackCode ps c = 0 then (if ps.contains c then (ps.filter (fun x => x != c), 0) else ([], 3)) else ([], rackCode ps c)
def nextO : Option Int → Int × Int
  | some y => (y, 0)
  | none => (0, 3)
def nextR (ps : List Int) (c : Int) : Int × Int :=
  if rackCode ps c = 0 then nextO (ps.find? (fun x => decide (c < x))) else (0, rackCode ps c)
theorem rackCode_1 {ps : List Int} {c : Int} (h : rackB ps = false) : rackCode ps c = 1 := by simp [rackCode, h]
theorem rackCode_2 {ps : List Int} {c : Int} (h : rackB ps = true) (h2 : inR c 0 119 = false) : rackCode ps c = 2 := by simp [rackCode, h, h2]
theorem rackCode_0 {ps : List Int} {c : Int} (h : rackB ps = true) (h2 : inR c 0 119 = true) : rackCode ps c = 0 := by simp [rackCode, h, h2]
theorem rackCode_cases (ps : List Int) (c : Int) : rackCode ps c = 0 ∨ rackCode ps c = 1 ∨ rackCode ps c = 2 := by
  unfold rackCode
  split
  · split
    · exact .inl rfl
    · exact .inr (.inr rfl)
  · exact .inr (.inl rfl)
theorem rackCode_ok {ps : List Int} {c : Int} (h : rackCode ps c = 0) : rackB ps = true ∧ inR c 0 119 = true := by
  unfold rackCode at h
  split at h
  · rename_i h1
    split at h
    · rename_i h2; exact ⟨h1, h2⟩
    · cases h
  · cases h
theorem rackB_len {ps : List Int} (h : rackB ps = true) : ps.length ≤ 12 ∧ risesB 119 0 ps = true := by
  simp only [rackB, Bool.and_eq_true, decide_eq_true_eq] at h
  exact h
end Go.Proofs.Ytijelimpkcnbjaa
