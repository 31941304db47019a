/- Moves of the carriage: without a program: moves, least numbers of moves, ways. -/
import Derived.Test.YtijelimpkcnbjaaByt
import Derived.Test.YtijelimpkcnbjaaTab0
namespace Go.Proofs.Ytijelimpkcnbjaa
open Go.RowKit Go.ChangeShapes Go.WideShapes Go.Deep
set_option linter.unusedVariables false
set_option linter.unusedSimpArgs false

def stB (ps : List Int) : Bool := decide (ps.length ≤ 6) && risesB 30 1 ps
def tabP : List Int → Int → Int
  | [], _ => -1
  | p :: r, a => if a < p then p else tabP r a
theorem tabP_drop {ps : List Int} {k : Nat} {x : Int} (h : ps[k]? = some x) (a : Int) : tabP (ps.drop k) a = if a < x then x else tabP (ps.drop (k + 1)) a := by
  obtain ⟨h1, rfl⟩ := List.getElem?_eq_some_iff.1 h
  rw [List.drop_eq_getElem_cons h1]
  rfl
def rawP (ps : List Int) (a : Int) (m : UInt8) : Int := if m.toNat = 62 then a + 1 else if m.toNat = 60 then a - 1 else if m.toNat = 35 then tabP ps a else -1
/-- The column behind a move; -1 if it does not exist. -/
def nextP (ps : List Int) (a : Int) (m : UInt8) : Int := if inR (rawP ps a m) 0 30 = true then rawP ps a m else -1
theorem nextP_range (ps : List Int) (a : Int) (m : UInt8) : nextP ps a m = -1 ∨ (0 ≤ nextP ps a m ∧ nextP ps a m ≤ 30) := by
  unfold nextP
  split
  · rename_i h
    exact Or.inr (inR_iff.1 h)
  · exact Or.inl rfl
/-- The three moves, in the order of their bytes. -/
def mvB (k : Nat) : UInt8 := if k = 0 then 35 else if k = 1 then 60 else 62
theorem mvB_at (k : Nat) (h : k < 3) : bAt ⟨#[35, 60, 62]⟩ k = mvB k := by
  match k, h with
  | 0, _ => rfl
  | 1, _ => rfl
  | 2, _ => rfl
/-- D tells, for each column, the least number of moves to a column. -/
structure IsFar (ps : List Int) (to : Nat) (D : Nat → Int) : Prop where
  zero : D to = 0
  step : ∀ a : Nat, a ≤ 30 → ∀ k, k < 3 → ∀ n : Nat, nextP ps (a : Int) (mvB k) = (n : Int) → D a ≤ D n + 1
  back : ∀ a : Nat, a ≤ 30 → a ≠ to → ∃ k, k < 3 ∧ ∃ n : Nat, nextP ps (a : Int) (mvB k) = (n : Int) ∧ D a = D n + 1
  pos : ∀ a : Nat, a ≤ 30 → 0 ≤ D a
theorem next_le {ps : List Int} {a : Int} {m : UInt8} {n : Nat} (h : nextP ps a m = (n : Int)) : n ≤ 30 := by
  rcases nextP_range ps a m with h1 | h1 <;> omega
theorem IsFar.le {ps : List Int} {to : Nat} {D D' : Nat → Int} (h : IsFar ps to D) (h' : IsFar ps to D') : ∀ (N : Nat) (a : Nat), a ≤ 30 → D' a ≤ (N : Int) → D a ≤ D' a
  | N, a, ha, hN => by
    by_cases he : a = to
    · subst he; rw [h.zero, h'.zero]; exact Int.le_refl _
    · obtain ⟨k, hk, n, hn, hd⟩ := h'.back a ha he
      have hn30 := next_le hn
      have hp := h'.pos n hn30
      match N, hN with
      | 0, hN => exfalso; omega
      | N + 1, hN =>
        have := h.le h' N n hn30 (by omega)
        have := h.step a ha k hk n hn
        omega
open Classical in
noncomputable def farP (ps : List Int) (to a : Nat) : Int := if h : ∃ D, IsFar ps to D then h.choose a else 0
theorem IsFar.eq {ps : List Int} {to : Nat} {D : Nat → Int} (h : IsFar ps to D) {a : Nat} (ha : a ≤ 30) : D a = farP ps to a := by
  have hx : ∃ D, IsFar ps to D := ⟨D, h⟩
  have h2 : IsFar ps to hx.choose := hx.choose_spec
  have e : farP ps to a = hx.choose a := by rw [farP, dif_pos hx]
  rw [e]
  have h3 := h.pos a ha
  have h4 := h2.pos a ha
  exact Int.le_antisymm (h.le h2 (hx.choose a).toNat a ha (by omega)) (h2.le h (D a).toNat a ha (by omega))
theorem IsFar.far {ps : List Int} {to : Nat} {D : Nat → Int} (hto : to ≤ 30) (h : IsFar ps to D) : IsFar ps to (farP ps to) := by
  refine ⟨by rw [← h.eq hto]; exact h.zero, fun a ha k hk n hn => ?_, fun a ha hne => ?_, fun a ha => by rw [← h.eq ha]; exact h.pos a ha⟩
  · rw [← h.eq ha, ← h.eq (next_le hn)]; exact h.step a ha k hk n hn
  · obtain ⟨k, hk, n, hn, hd⟩ := h.back a ha hne
    exact ⟨k, hk, n, hn, by rw [← h.eq ha, ← h.eq (next_le hn)]; exact hd⟩
theorem next_up (ps : List Int) {a : Nat} (h : a < 30) : nextP ps (a : Int) (mvB 2) = ((a + 1 : Nat) : Int) := by
  have h1 : inR ((a : Int) + 1) 0 30 = true := inR_iff.2 ⟨by omega, by omega⟩
  simp [nextP, rawP, mvB, h1]
theorem next_down (ps : List Int) {a : Nat} (h : 0 < a) (h30 : a ≤ 31) : nextP ps (a : Int) (mvB 1) = ((a - 1 : Nat) : Int) := by
  have h1 : inR ((a : Int) - 1) 0 30 = true := inR_iff.2 ⟨by omega, by omega⟩
  simp [nextP, rawP, mvB, h1]
  omega
/-- What holds of steps alone: no column is further than its distance. -/
theorem far_bound {ps : List Int} {to : Nat} {D : Nat → Int} (hto : to ≤ 30) (h0 : D to = 0) (hs : ∀ a : Nat, a ≤ 30 → ∀ k, k < 3 → ∀ n : Nat, nextP ps (a : Int) (mvB k) = (n : Int) → D a ≤ D n + 1) :
    (∀ d, d ≤ to → D (to - d) ≤ (d : Int)) ∧ (∀ d, to + d ≤ 30 → D (to + d) ≤ (d : Int)) := by
  constructor
  · intro d
    induction d with
    | zero => intro _; simpa using h0 ▸ Int.le_refl _
    | succ d ih =>
      intro hd
      have h1 := ih (by omega)
      have h2 := hs (to - (d + 1)) (by omega) 2 (by omega) (to - d) (by rw [next_up ps (by omega), show to - (d + 1) + 1 = to - d by omega])
      omega
  · intro d
    induction d with
    | zero => intro _; simpa using h0 ▸ Int.le_refl _
    | succ d ih =>
      intro hd
      have h1 := ih (by omega)
      have h2 := hs (to + (d + 1)) hd 1 (by omega) (to + d) (by rw [next_down ps (by omega) (by omega), show to + (d + 1) - 1 = to + d by omega])
      omega
theorem far_30 {ps : List Int} {to : Nat} {D : Nat → Int} (hto : to ≤ 30) (h0 : D to = 0) (hs : ∀ a : Nat, a ≤ 30 → ∀ k, k < 3 → ∀ n : Nat, nextP ps (a : Int) (mvB k) = (n : Int) → D a ≤ D n + 1) {a : Nat} (ha : a ≤ 30) : D a ≤ 30 := by
  obtain ⟨h1, h2⟩ := far_bound hto h0 hs
  rcases Nat.le_total a to with h | h
  · have := h1 (to - a) (by omega)
    rw [show to - (to - a) = a by omega] at this
    omega
  · have := h2 (a - to) (by omega)
    rw [show to + (a - to) = a by omega] at this
    omega
/-- The number of the first move of a least way. -/
def firstK (ps : List Int) (D : Nat → Int) (a : Nat) : Nat := if (0 ≤ nextP ps a (mvB 0) ∧ D (nextP ps a (mvB 0)).toNat + 1 = D a) then 0 else if (0 ≤ nextP ps a (mvB 1) ∧ D (nextP ps a (mvB 1)).toNat + 1 = D a) then 1 else 2
def wayL (ps : List Int) (D : Nat → Int) : Nat → Nat → List UInt8
  | 0, _ => []
  | f + 1, a => if D a ≤ 0 then [] else mvB (firstK ps D a) :: wayL ps D f (nextP ps a (mvB (firstK ps D a))).toNat
/-- The least text of the least moves from a column to one. -/
noncomputable def wayP (ps : List Int) (to a : Nat) : List UInt8 := wayL ps (farP ps to) 31 a
theorem first_ok {ps : List Int} {to : Nat} {D : Nat → Int} (h : IsFar ps to D) {a : Nat} (ha : a ≤ 30) (hp : 0 < D a) : firstK ps D a < 3 ∧ ∃ n : Nat, nextP ps a (mvB (firstK ps D a)) = (n : Int) ∧ n ≤ 30 ∧ D a = D n + 1 := by
  have hne : a ≠ to := by intro e; rw [e, h.zero] at hp; omega
  obtain ⟨k, hk, n, hn, hd⟩ := h.back a ha hne
  have hg : ∀ j, (0 ≤ nextP ps a (mvB j) ∧ D (nextP ps a (mvB j)).toNat + 1 = D a) → ∃ n : Nat, nextP ps a (mvB j) = (n : Int) ∧ n ≤ 30 ∧ D a = D n + 1 := fun j hj => by
    refine ⟨(nextP ps a (mvB j)).toNat, by omega, ?_, by omega⟩
    rcases nextP_range ps a (mvB j) with h1 | h1 <;> omega
  unfold firstK
  split
  · exact ⟨by omega, hg 0 (by assumption)⟩
  · split
    · exact ⟨by omega, hg 1 (by assumption)⟩
    · rename_i h1 h2
      refine ⟨by omega, hg 2 ?_⟩
      have hh : 0 ≤ nextP ps a (mvB k) ∧ D (nextP ps a (mvB k)).toNat + 1 = D a := by rw [hn]; exact ⟨by omega, by rw [Int.toNat_natCast]; omega⟩
      match k, hk, hh with
      | 0, _, hh => exact absurd hh h1
      | 1, _, hh => exact absurd hh h2
      | 2, _, hh => exact hh
theorem way_len {ps : List Int} {to : Nat} {D : Nat → Int} (h : IsFar ps to D) : ∀ (f a : Nat), a ≤ 30 → D a ≤ (f : Int) → ((wayL ps D f a).length : Int) = D a
  | 0, a, ha, hf => by have := h.pos a ha; simp [wayL]; omega
  | f + 1, a, ha, hf => by
    have hp := h.pos a ha
    rw [wayL]
    split
    · simp; omega
    · obtain ⟨_, n, hn, hn30, hd⟩ := first_ok h ha (by omega)
      rw [hn, Int.toNat_natCast, List.length_cons]
      have := way_len h f n hn30 (by omega)
      omega
/-- One more step of a way. -/
theorem way_step {ps : List Int} {to : Nat} {D : Nat → Int} (h : IsFar ps to D) {a n : Nat} (ha : a ≤ 30) (hp : 0 < D a) (hn : nextP ps a (mvB (firstK ps D a)) = (n : Int)) (f : Nat) : wayL ps D (f + 1) a = mvB (firstK ps D a) :: wayL ps D f n := by
  rw [wayL, if_neg (by omega), hn, Int.toNat_natCast]
/-- The code of stops and two columns. -/
def mvC (ps : List Int) (a b : Int) : Int := if stB ps = true then (if (inR a 0 30 && inR b 0 30) = true then 0 else 2) else 1
noncomputable def mbR (ps : List Int) (a b : Int) : Int × Int := if mvC ps a b = 0 then (farP ps b.toNat a.toNat, 0) else (0, mvC ps a b)
noncomputable def pbR (ps : List Int) (a b : Int) : ByteArray × Int := if mvC ps a b = 0 then (⟨(wayP ps b.toNat a.toNat).toArray⟩, 0) else (ByteArray.empty, mvC ps a b)
theorem mvC_ok {ps : List Int} {a b : Int} (h : mvC ps a b = 0) : stB ps = true ∧ 0 ≤ a ∧ a ≤ 30 ∧ 0 ≤ b ∧ b ≤ 30 := by
  unfold mvC at h
  split at h
  · split at h
    · rename_i h1 h2
      simp only [Bool.and_eq_true] at h2
      exact ⟨h1, (inR_iff.1 h2.1).1, (inR_iff.1 h2.1).2, (inR_iff.1 h2.2).1, (inR_iff.1 h2.2).2⟩
    · cases h
  · cases h
end Go.Proofs.Ytijelimpkcnbjaa
