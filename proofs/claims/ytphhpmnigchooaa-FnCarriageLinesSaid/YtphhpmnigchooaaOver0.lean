/- Places with several letters, as plain data: a number put into rising ones; which places come more than once. -/
import Derived.Test.YtphhpmnigchooaaCar4
import Derived.Test.YtphhpmnigchooaaIntO
namespace Go.Proofs.Ytphhpmnigchooaa
open Go.RowKit Go.ChangeShapes Go.WideShapes Go.Deep
set_option linter.unusedVariables false
set_option linter.unusedSimpArgs false

/-- A number put to its place among rising ones, once, as the loop goes: whether it is done, and what is still to come. -/
def putI (n : Int) : Bool → List Int → List Int
  | done, [] => if done = true then [] else [n]
  | done, x :: l => if done = false ∧ n ≤ x then (if n < x then n :: x :: putI n true l else x :: putI n true l) else x :: putI n done l
theorem putI_true (n : Int) : ∀ l, putI n true l = l
  | [] => rfl
  | x :: l => by simp [putI, putI_true n l]
theorem putI_length (n : Int) : ∀ (l : List Int) (d : Bool), (putI n d l).length ≤ l.length + 1
  | [], d => by unfold putI; split <;> simp
  | x :: l, d => by
    unfold putI
    rw [putI_true]
    split
    · split <;> simp
    · have := putI_length n l d
      simp; omega
def rising : List Int → Prop
  | [] => True
  | [_] => True
  | a :: b :: l => a < b ∧ rising (b :: l)
theorem rising_tail {a : Int} {l : List Int} (h : rising (a :: l)) : rising l := by
  cases l with
  | nil => trivial
  | cons b l => exact h.2
theorem rising_lt {a : Int} : ∀ {l : List Int}, rising (a :: l) → ∀ x ∈ l, a < x
  | [], _, x, hx => by cases hx
  | b :: l, h, x, hx => by
    rcases List.mem_cons.1 hx with rfl | hx
    · exact h.1
    · exact Int.lt_trans h.1 (rising_lt h.2 x hx)
theorem rising_cons {a : Int} {l : List Int} (h : rising l) (ha : ∀ x ∈ l, a < x) : rising (a :: l) := by
  cases l with
  | nil => trivial
  | cons b l => exact ⟨ha b (List.mem_cons_self ..), h⟩
theorem putI_mem (n p : Int) : ∀ (l : List Int), p ∈ putI n false l ↔ p = n ∨ p ∈ l
  | [] => by simp [putI]
  | x :: l => by
    unfold putI
    rw [putI_true]
    by_cases h : n ≤ x
    · rw [if_pos ⟨rfl, h⟩]
      by_cases h2 : n < x
      · rw [if_pos h2]; simp
      · rw [if_neg h2]
        have : n = x := by omega
        subst this
        simp
    · rw [if_neg (fun q => h q.2)]
      rw [List.mem_cons, putI_mem n p l, List.mem_cons]
      constructor
      · rintro (h | h | h)
        · exact .inr (.inl h)
        · exact .inl h
        · exact .inr (.inr h)
      · rintro (h | h | h)
        · exact .inr (.inl h)
        · exact .inl h
        · exact .inr (.inr h)
theorem putI_rising (n : Int) : ∀ (l : List Int), rising l → rising (putI n false l)
  | [], _ => trivial
  | x :: l, h => by
    unfold putI
    rw [putI_true]
    by_cases h1 : n ≤ x
    · rw [if_pos ⟨rfl, h1⟩]
      by_cases h2 : n < x
      · rw [if_pos h2]; exact ⟨h2, h⟩
      · rw [if_neg h2]; exact h
    · rw [if_neg (fun q => h1 q.2)]
      refine rising_cons (putI_rising n l (rising_tail h)) fun y hy => ?_
      rcases (putI_mem n y l).1 hy with rfl | hy
      · omega
      · exact rising_lt h y hy
/-- Two rising lists with the same members are one. -/
theorem rising_eq : ∀ {l m : List Int}, rising l → rising m → (∀ x, x ∈ l ↔ x ∈ m) → l = m
  | [], [], _, _, _ => rfl
  | [], b :: m, _, _, h => by have := (h b).2 (List.mem_cons_self ..); cases this
  | a :: l, [], _, _, h => by have := (h a).1 (List.mem_cons_self ..); cases this
  | a :: l, b :: m, hl, hm, h => by
    have e : a = b := by
      rcases List.mem_cons.1 ((h a).1 (List.mem_cons_self ..)) with e | e
      · exact e
      · rcases List.mem_cons.1 ((h b).2 (List.mem_cons_self ..)) with f | f
        · exact f.symm
        · have h1 := rising_lt hm a e
          have h2 := rising_lt hl b f
          omega
    subst e
    congr 1
    refine rising_eq (rising_tail hl) (rising_tail hm) fun x => ?_
    constructor
    · intro hx
      rcases List.mem_cons.1 ((h x).1 (List.mem_cons_of_mem _ hx)) with e | e
      · subst e; have := rising_lt hl x hx; omega
      · exact e
    · intro hx
      rcases List.mem_cons.1 ((h x).2 (List.mem_cons_of_mem _ hx)) with e | e
      · subst e; have := rising_lt hm x hx; omega
      · exact e

/-- How often a place comes. -/
def cntAt (l : List StruckD) (p : Nat) : Nat := l.countP (fun s => decide (s.place = (p : Int)))
/-- The places from p on that come more than once. -/
def manyFrom (l : List StruckD) : Nat → Nat → List Int
  | 0, _ => []
  | f + 1, p => if 1 < cntAt l p then (p : Int) :: manyFrom l f (p + 1) else manyFrom l f (p + 1)
def manyL (l : List StruckD) : List Int := manyFrom l 301 0
theorem manyFrom_mem (l : List StruckD) : ∀ (f p : Nat) (x : Int), x ∈ manyFrom l f p ↔ ∃ q : Nat, p ≤ q ∧ q < p + f ∧ x = (q : Int) ∧ 1 < cntAt l q
  | 0, p, x => by
    simp only [manyFrom, List.not_mem_nil, false_iff]
    rintro ⟨q, h1, h2, _⟩
    omega
  | f + 1, p, x => by
    have ih := manyFrom_mem l f (p + 1) x
    unfold manyFrom
    split
    · rename_i hc
      rw [List.mem_cons, ih]
      constructor
      · rintro (h | ⟨q, h1, h2, h3, h4⟩)
        · exact ⟨p, by omega, by omega, h, hc⟩
        · exact ⟨q, by omega, by omega, h3, h4⟩
      · rintro ⟨q, h1, h2, h3, h4⟩
        by_cases e : q = p
        · subst e; exact .inl h3
        · exact .inr ⟨q, by omega, by omega, h3, h4⟩
    · rename_i hc
      rw [ih]
      constructor
      · rintro ⟨q, h1, h2, h3, h4⟩
        exact ⟨q, by omega, by omega, h3, h4⟩
      · rintro ⟨q, h1, h2, h3, h4⟩
        by_cases e : q = p
        · subst e; exact absurd h4 hc
        · exact ⟨q, by omega, by omega, h3, h4⟩
theorem manyFrom_rising (l : List StruckD) : ∀ (f p : Nat), rising (manyFrom l f p)
  | 0, p => trivial
  | f + 1, p => by
    unfold manyFrom
    split
    · refine rising_cons (manyFrom_rising l f (p + 1)) fun x hx => ?_
      obtain ⟨q, h1, _, h3, _⟩ := (manyFrom_mem l f (p + 1) x).1 hx
      omega
    · exact manyFrom_rising l f (p + 1)
theorem manyFrom_length (l : List StruckD) : ∀ (f p : Nat), (manyFrom l f p).length ≤ f
  | 0, p => Nat.le_refl _
  | f + 1, p => by
    have := manyFrom_length l f (p + 1)
    unfold manyFrom
    split
    · simp; omega
    · omega
theorem many_step (l : List StruckD) {p : Nat} (h : p < 301) : manyFrom l (301 - p) p = (if 1 < cntAt l p then [(p : Int)] else []) ++ manyFrom l (301 - (p + 1)) (p + 1) := by
  rw [show 301 - p = (301 - (p + 1)) + 1 by omega, manyFrom]
  split <;> rfl

/-- The place comes twice among the elements up to (i, k). -/
def twice (l : List StruckD) (i k : Nat) (p : Int) : Prop := ∃ (a b : Nat) (x y : StruckD), b < a ∧ (a < i ∨ (a = i ∧ b < k)) ∧ l[a]? = some x ∧ l[b]? = some y ∧ x.place = p ∧ y.place = p
theorem twice_zero (l : List StruckD) (p : Int) : ¬ twice l 0 0 p := by
  rintro ⟨a, b, x, y, h1, h2, _⟩
  omega
theorem twice_next (l : List StruckD) (i : Nat) (p : Int) : twice l (i + 1) 0 p ↔ twice l i i p := by
  constructor
  · rintro ⟨a, b, x, y, h1, h2, h3⟩
    exact ⟨a, b, x, y, h1, by omega, h3⟩
  · rintro ⟨a, b, x, y, h1, h2, h3⟩
    exact ⟨a, b, x, y, h1, by omega, h3⟩
theorem twice_yes {l : List StruckD} {i k : Nat} {x y : StruckD} (hk : k < i) (hx : l[i]? = some x) (hy : l[k]? = some y) (he : y.place = x.place) (p : Int) : twice l i (k + 1) p ↔ p = x.place ∨ twice l i k p := by
  constructor
  · rintro ⟨a, b, u, v, h1, h2, h3, h4, h5, h6⟩
    by_cases e : a = i ∧ b = k
    · obtain ⟨rfl, rfl⟩ := e
      rw [hx] at h3
      cases h3
      exact .inl h5.symm
    · exact .inr ⟨a, b, u, v, h1, by omega, h3, h4, h5, h6⟩
  · rintro (rfl | ⟨a, b, u, v, h1, h2, h3⟩)
    · exact ⟨i, k, x, y, hk, by omega, hx, hy, rfl, he⟩
    · exact ⟨a, b, u, v, h1, by omega, h3⟩
theorem twice_no {l : List StruckD} {i k : Nat} {x y : StruckD} (hx : l[i]? = some x) (hy : l[k]? = some y) (he : ¬ y.place = x.place) (p : Int) : twice l i (k + 1) p ↔ twice l i k p := by
  constructor
  · rintro ⟨a, b, u, v, h1, h2, h3, h4, h5, h6⟩
    by_cases e : a = i ∧ b = k
    · obtain ⟨rfl, rfl⟩ := e
      rw [hx] at h3
      rw [hy] at h4
      cases h3
      cases h4
      exact absurd (h6.trans h5.symm) he
    · exact ⟨a, b, u, v, h1, by omega, h3, h4, h5, h6⟩
  · rintro ⟨a, b, u, v, h1, h2, h3⟩
    exact ⟨a, b, u, v, h1, by omega, h3⟩
theorem cnt_pos {l : List StruckD} {q : Nat} : 0 < cntAt l q ↔ ∃ (a : Nat) (x : StruckD), l[a]? = some x ∧ x.place = (q : Int) := by
  unfold cntAt
  rw [List.countP_pos_iff]
  constructor
  · rintro ⟨x, hx, he⟩
    obtain ⟨a, ha, rfl⟩ := List.getElem_of_mem hx
    exact ⟨a, _, List.getElem?_eq_getElem ha, by simpa using he⟩
  · rintro ⟨a, x, hx, he⟩
    exact ⟨x, List.mem_of_getElem? hx, by simpa using he⟩
theorem cnt_two : ∀ (l : List StruckD) (q : Nat), 1 < cntAt l q ↔ ∃ (a b : Nat) (x y : StruckD), b < a ∧ l[a]? = some x ∧ l[b]? = some y ∧ x.place = (q : Int) ∧ y.place = (q : Int)
  | [], q => by simp [cntAt]
  | s :: l, q => by
    have ih := cnt_two l q
    have hc : cntAt (s :: l) q = cntAt l q + (if s.place = (q : Int) then 1 else 0) := by
      unfold cntAt
      rw [List.countP_cons]
      simp
    rw [hc]
    constructor
    · intro h
      by_cases e : s.place = (q : Int)
      · rw [if_pos e] at h
        obtain ⟨a, x, ha, hx⟩ := cnt_pos.1 (show 0 < cntAt l q by omega)
        exact ⟨a + 1, 0, x, s, by omega, by simpa using ha, rfl, hx, e⟩
      · rw [if_neg e] at h
        obtain ⟨a, b, x, y, h1, h2, h3, h4⟩ := ih.1 h
        exact ⟨a + 1, b + 1, x, y, by omega, by simpa using h2, by simpa using h3, h4⟩
    · rintro ⟨a, b, x, y, h1, h2, h3, h4, h5⟩
      obtain ⟨a', rfl⟩ : ∃ a', a = a' + 1 := ⟨a - 1, by omega⟩
      simp only [List.getElem?_cons_succ] at h2
      cases b with
      | zero =>
        simp at h3
        subst h3
        rw [if_pos h5]
        have := cnt_pos.2 ⟨a', x, h2, h4⟩
        omega
      | succ b =>
        simp only [List.getElem?_cons_succ] at h3
        have := ih.2 ⟨a', b, x, y, by omega, h2, h3, h4, h5⟩
        omega
/-- What the model's loops leave is what the program counts. -/
theorem many_is {l : List StruckD} {out : List Int} (hp : ∀ s ∈ l, 0 ≤ s.place ∧ s.place ≤ 300) (hr : rising out) (hm : ∀ p, p ∈ out ↔ twice l l.length 0 p) : out = manyL l := by
  refine rising_eq hr (manyFrom_rising _ _ _) fun p => ?_
  rw [hm p, manyL, manyFrom_mem]
  constructor
  · rintro ⟨a, b, x, y, h1, h2, h3, h4, h5, h6⟩
    have hx := hp x (List.mem_of_getElem? h3)
    refine ⟨p.toNat, by omega, by omega, by omega, (cnt_two l _).2 ⟨a, b, x, y, h1, h3, h4, by omega, by omega⟩⟩
  · rintro ⟨q, _, _, rfl, hc⟩
    obtain ⟨a, b, x, y, h1, h2, h3, h4, h5⟩ := (cnt_two l q).1 hc
    have := (List.getElem?_eq_some_iff.1 h2).1
    exact ⟨a, b, x, y, h1, .inl this, h2, h3, h4, h5⟩
def overR (l : List StruckD) : List Int × Int := if lineOk l = true then (manyL l, 0) else ([], 1)
end Go.Proofs.Ytphhpmnigchooaa
