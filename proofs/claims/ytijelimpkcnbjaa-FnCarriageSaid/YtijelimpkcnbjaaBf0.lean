/- A search in breadth: without a program: the first way that comes to a column is the least one. -/
import Derived.Test.YtijelimpkcnbjaaTm0
namespace Go.Proofs.Ytijelimpkcnbjaa
open Go.RowKit Go.ChangeShapes Go.WideShapes Go.Deep
set_option linter.unusedVariables false
set_option linter.unusedSimpArgs false

/-- The column behind the move k, if there is one. -/
def stK (ps : List Int) (a k : Nat) : Option Nat := if 0 ≤ nextP ps (a : Int) (mvB k) then some (nextP ps (a : Int) (mvB k)).toNat else none
theorem stK_some {ps : List Int} {a k n : Nat} (h : stK ps a k = some n) : nextP ps (a : Int) (mvB k) = (n : Int) ∧ n ≤ 30 := by
  unfold stK at h
  split at h
  · rename_i h0
    have h1 : (nextP ps (a : Int) (mvB k)).toNat = n := by simpa using h
    have h2 : nextP ps (a : Int) (mvB k) = (n : Int) := by omega
    exact ⟨h2, next_le h2⟩
  · cases h
theorem stK_of {ps : List Int} {a k n : Nat} (h : nextP ps (a : Int) (mvB k) = (n : Int)) : stK ps a k = some n := by
  unfold stK
  rw [h, if_pos (by omega)]
  simp
/-- Where a list of moves leads. -/
def endK (ps : List Int) : Nat → List Nat → Option Nat
  | a, [] => some a
  | a, k :: r => (stK ps a k).bind fun n => endK ps n r
theorem endK_snoc (ps : List Int) (k : Nat) : ∀ (p : List Nat) (a : Nat), endK ps a (p ++ [k]) = (endK ps a p).bind fun n => stK ps n k
  | [], a => by
    simp only [List.nil_append, endK, Option.bind_some]
    cases stK ps a k <;> rfl
  | j :: p, a => by
    simp only [List.cons_append, endK]
    cases h : stK ps a j with
    | none => rfl
    | some n => simpa using endK_snoc ps k p n
/-- The number of a list of moves: shorter ones and then earlier ones are less. -/
def valK (p : List Nat) : Nat := p.foldl (fun v k => 4 * v + k + 1) 0
theorem valK_snoc (p : List Nat) (k : Nat) : valK (p ++ [k]) = 4 * valK p + k + 1 := by simp [valK, List.foldl_append]
theorem valK_nil : valK [] = 0 := rfl
theorem snocRec {α : Type} {P : List α → Prop} (h0 : P []) (h1 : ∀ p k, P p → P (p ++ [k])) (p : List α) : P p := by
  have : ∀ q : List α, P q.reverse := fun q => by
    induction q with
    | nil => exact h0
    | cons k q ih => rw [List.reverse_cons]; exact h1 _ _ ih
  have h := this p.reverse
  rwa [List.reverse_reverse] at h
theorem valK_inj (p : List Nat) : ∀ q : List Nat, (∀ k ∈ p, k < 3) → (∀ k ∈ q, k < 3) → valK p = valK q → p = q := by
  refine snocRec (P := fun p => ∀ q : List Nat, (∀ k ∈ p, k < 3) → (∀ k ∈ q, k < 3) → valK p = valK q → p = q) ?_ ?_ p
  · intro q
    refine snocRec (P := fun q => (∀ k ∈ [], k < 3) → (∀ k ∈ q, k < 3) → valK [] = valK q → [] = q) ?_ ?_ q
    · intro _ _ _; rfl
    · intro q k _ _ _ h
      rw [valK_snoc, valK_nil] at h
      omega
  · intro p k ih q
    refine snocRec (P := fun q => (∀ j ∈ p ++ [k], j < 3) → (∀ j ∈ q, j < 3) → valK (p ++ [k]) = valK q → p ++ [k] = q) ?_ ?_ q
    · intro _ _ h
      rw [valK_snoc, valK_nil] at h
      omega
    · intro q j _ hp hq h
      rw [valK_snoc, valK_snoc] at h
      have hk := hp k (by simp)
      have hj := hq j (by simp)
      have e1 : valK p = valK q := by omega
      have e2 : k = j := by omega
      rw [ih q (fun x hx => hp x (by simp [hx])) (fun x hx => hq x (by simp [hx])) e1, e2]
/-- A way from one column to another one. -/
def IsWay (ps : List Int) (s : Nat) (p : List Nat) (v : Nat) : Prop := (∀ k ∈ p, k < 3) ∧ endK ps s p = some v
theorem IsWay.snoc {ps : List Int} {s v k n : Nat} {p : List Nat} (h : IsWay ps s p v) (hk : k < 3) (hn : stK ps v k = some n) : IsWay ps s (p ++ [k]) n := by
  refine ⟨fun j hj => ?_, by rw [endK_snoc, h.2]; exact hn⟩
  rcases List.mem_append.1 hj with h1 | h1
  · exact h.1 j h1
  · rw [List.mem_singleton.1 h1]; exact hk
theorem IsWay.cut {ps : List Int} {s n k : Nat} {p : List Nat} (h : IsWay ps s (p ++ [k]) n) : ∃ v, IsWay ps s p v ∧ k < 3 ∧ stK ps v k = some n := by
  have h2 := h.2
  rw [endK_snoc] at h2
  cases hv : endK ps s p with
  | none => rw [hv] at h2; cases h2
  | some v => rw [hv] at h2; exact ⟨v, ⟨fun j hj => h.1 j (by simp [hj]), hv⟩, h.1 k (by simp), h2⟩
def IsBest (ps : List Int) (s : Nat) (p : List Nat) (v : Nat) : Prop := IsWay ps s p v ∧ ∀ q, IsWay ps s q v → valK p ≤ valK q
abbrev Arr := Nat × List Nat
/-- What holds of all columns that have been found, in their order. -/
structure Fnd (ps : List Int) (s : Nat) (L : List Arr) (R : List Bool) : Prop where
  len : R.length = 31
  best : ∀ x ∈ L, IsBest ps s x.2 x.1 ∧ x.1 ≤ 30
  mem : ∀ v : Nat, R[v]? = some true ↔ ∃ p, (v, p) ∈ L
  sorted : L.Pairwise fun x y => valK x.2 < valK y.2
  start : ∃ p, (s, p) ∈ L
  many : R.count true = L.length
/-- Where the search takes the next column: D are done, Q wait. -/
structure Bfs (ps : List Int) (s : Nat) (D Q : List Arr) (R : List Bool) : Prop where
  fnd : Fnd ps s (D ++ Q) R
  shut : ∀ x ∈ D, ∀ k, k < 3 → ∀ n, stK ps x.1 k = some n → R[n]? = some true
  near : ∀ x ∈ D ++ Q, ∀ y ∈ Q, valK x.2 ≤ 4 * valK y.2
/-- Where the search has tried the first j moves of a column. -/
structure Bft (ps : List Int) (s : Nat) (D : List Arr) (v : Nat) (p : List Nat) (j : Nat) (Q : List Arr) (R : List Bool) : Prop where
  fnd : Fnd ps s (D ++ (v, p) :: Q) R
  shut : ∀ x ∈ D, ∀ k, k < 3 → ∀ n, stK ps x.1 k = some n → R[n]? = some true
  tried : ∀ k, k < j → ∀ n, stK ps v k = some n → R[n]? = some true
  near : ∀ x ∈ D ++ (v, p) :: Q, valK x.2 ≤ 4 * valK p + j
  least : ∀ q u, IsWay ps s q u → (¬ ∃ r, (u, r) ∈ D) → valK p ≤ valK q
theorem Bfs.cross {ps : List Int} {s : Nat} {D Q : List Arr} {R : List Bool} (h : Bfs ps s D Q R) (q : List Nat) : ∀ u, IsWay ps s q u → (¬ ∃ r, (u, r) ∈ D) → ∃ x ∈ Q, valK x.2 ≤ valK q := by
  refine snocRec (P := fun q => ∀ u, IsWay ps s q u → (¬ ∃ r, (u, r) ∈ D) → ∃ x ∈ Q, valK x.2 ≤ valK q) ?_ ?_ q
  · intro u hu hn
    have e : s = u := by simpa [endK] using hu.2
    subst e
    obtain ⟨p, hp⟩ := h.fnd.start
    rcases List.mem_append.1 hp with h1 | h1
    · exact absurd ⟨p, h1⟩ hn
    · exact ⟨_, h1, ((h.fnd.best _ hp).1.2 _ hu)⟩
  · intro q k ih u hu hn
    obtain ⟨v, hv, hk, hs⟩ := hu.cut
    by_cases hd : ∃ r, (v, r) ∈ D
    · obtain ⟨r, hr⟩ := hd
      obtain ⟨p, hp⟩ := (h.fnd.mem u).1 (h.shut _ hr k hk u hs)
      rcases List.mem_append.1 hp with h1 | h1
      · exact absurd ⟨p, h1⟩ hn
      · exact ⟨_, h1, (h.fnd.best _ hp).1.2 _ hu⟩
    · obtain ⟨x, hx, hle⟩ := ih v hv hd
      exact ⟨x, hx, by rw [valK_snoc]; omega⟩
theorem Bfs.init {ps : List Int} {s : Nat} (hs : s ≤ 30) : Bfs ps s [] [(s, [])] ((List.replicate 31 false).set s true) := by
  have hw : IsWay ps s [] s := ⟨fun k hk => (by cases hk), rfl⟩
  refine ⟨⟨by simp, ?_, ?_, by simp, ⟨[], by simp⟩, ?_⟩, fun x hx => (by cases hx), ?_⟩
  · intro x hx
    obtain rfl : x = (s, []) := by simpa using hx
    exact ⟨⟨hw, fun q _ => by rw [valK_nil]; omega⟩, hs⟩
  · intro v
    rw [List.getElem?_set]
    by_cases hv : s = v
    · subst hv
      simp only [List.length_replicate, if_pos trivial, if_pos (show s < 31 by omega)]
      simp
    · rw [if_neg hv]
      constructor
      · intro h
        have := List.getElem?_eq_some_iff.1 h
        obtain ⟨h1, h2⟩ := this
        rw [List.getElem_replicate] at h2
        cases h2
      · rintro ⟨p, hp⟩
        simp at hp
        exact absurd hp.1.symm hv
  · rw [List.count_set (by simp; omega)]
    simp
  · intro x hx y hy
    obtain rfl : x = (s, []) := by simpa using hx
    show (0 : Nat) ≤ _
    omega
theorem Bfs.pop {ps : List Int} {s : Nat} {D Q : List Arr} {v : Nat} {p : List Nat} {R : List Bool} (h : Bfs ps s D ((v, p) :: Q) R) : Bft ps s D v p 0 Q R := by
  refine ⟨h.fnd, h.shut, fun k hk => absurd hk (by omega), fun x hx => by have := h.near x hx (v, p) (by simp); simpa using this, fun q u hu hn => ?_⟩
  obtain ⟨x, hx, hle⟩ := h.cross q u hu hn
  rcases List.mem_cons.1 hx with rfl | h1
  · exact hle
  · have := List.rel_of_pairwise_cons (List.pairwise_append.1 h.fnd.sorted).2.1 h1
    have h2 : valK p < valK x.2 := this
    omega
theorem Bft.skip {ps : List Int} {s : Nat} {D Q : List Arr} {v j : Nat} {p : List Nat} {R : List Bool} (h : Bft ps s D v p j Q R) (hj : ∀ n, stK ps v j = some n → R[n]? = some true) : Bft ps s D v p (j + 1) Q R := by
  refine ⟨h.fnd, h.shut, fun k hk n hn => ?_, fun x hx => by have := h.near x hx; omega, h.least⟩
  by_cases e : k = j
  · subst e; exact hj n hn
  · exact h.tried k (by omega) n hn
theorem Bft.hit {ps : List Int} {s : Nat} {D Q : List Arr} {v j n : Nat} {p : List Nat} {R : List Bool} (h : Bft ps s D v p j Q R) (hj : j < 3) (hn : stK ps v j = some n) (hr : R[n]? = some false) : Bft ps s D v p (j + 1) (Q ++ [(n, p ++ [j])]) (R.set n true) := by
  have hvp := h.fnd.best (v, p) (by simp)
  have hn30 := (stK_some hn).2
  have hway : IsWay ps s (p ++ [j]) n := hvp.1.1.snoc hj hn
  have hlt : n < R.length := by rw [h.fnd.len]; omega
  have hset : ∀ u : Nat, (R.set n true)[u]? = some true ↔ (u = n ∨ R[u]? = some true) := fun u => by
    rw [List.getElem?_set]
    by_cases e : n = u
    · subst e; simp [hlt]
    · rw [if_neg e]
      constructor
      · exact Or.inr
      · rintro (h1 | h1)
        · exact absurd h1.symm e
        · exact h1
  have hout : ¬ ∃ r, (n, r) ∈ D ++ (v, p) :: Q := fun hx => by
    have := (h.fnd.mem n).2 hx
    rw [hr] at this
    cases this
  have hbest : IsBest ps s (p ++ [j]) n := by
    refine ⟨hway, fun q => ?_⟩
    refine snocRec (P := fun q => IsWay ps s q n → valK (p ++ [j]) ≤ valK q) ?_ ?_ q
    · intro hq
      have e : s = n := by simpa [endK] using hq.2
      subst e
      exact absurd h.fnd.start hout
    · intro q k _ hq
      obtain ⟨u, hu, hk, hs⟩ := hq.cut
      by_cases hd : ∃ r, (u, r) ∈ D
      · obtain ⟨r, hrr⟩ := hd
        have := h.shut _ hrr k hk n hs
        rw [hr] at this
        cases this
      · have h1 := h.least q u hu hd
        rw [valK_snoc, valK_snoc]
        by_cases he : valK p = valK q
        · have e := valK_inj p q hvp.1.1.1 hu.1 he
          subst e
          have e2 : v = u := by
            have a1 := hvp.1.1.2
            have a2 := hu.2
            rw [a1] at a2
            simpa using a2
          subst e2
          by_cases hkj : k < j
          · have := h.tried k hkj n hs
            rw [hr] at this
            cases this
          · omega
        · omega
  have hall : ∀ x ∈ D ++ (v, p) :: Q, valK x.2 < valK (p ++ [j]) := fun x hx => by
    have := h.near x hx
    rw [valK_snoc]
    omega
  have happ : D ++ (v, p) :: (Q ++ [(n, p ++ [j])]) = (D ++ (v, p) :: Q) ++ [(n, p ++ [j])] := by simp
  refine ⟨⟨by rw [List.length_set]; exact h.fnd.len, ?_, ?_, ?_, ?_, ?_⟩, ?_, ?_, ?_, h.least⟩
  · intro x hx
    rw [happ] at hx
    rcases List.mem_append.1 hx with h1 | h1
    · exact h.fnd.best x h1
    · obtain rfl : x = (n, p ++ [j]) := by simpa using h1
      exact ⟨hbest, hn30⟩
  · intro u
    rw [hset, happ]
    constructor
    · rintro (rfl | h1)
      · exact ⟨p ++ [j], List.mem_append.2 (.inr (by simp))⟩
      · obtain ⟨r, hrr⟩ := (h.fnd.mem u).1 h1
        exact ⟨r, List.mem_append.2 (.inl hrr)⟩
    · rintro ⟨r, hrr⟩
      rcases List.mem_append.1 hrr with h1 | h1
      · exact .inr ((h.fnd.mem u).2 ⟨r, h1⟩)
      · have : (u, r) = (n, p ++ [j]) := by simpa using h1
        exact .inl (by cases this; rfl)
  · rw [happ]
    refine List.pairwise_append.2 ⟨h.fnd.sorted, by simp, fun x hx y hy => ?_⟩
    obtain rfl : y = (n, p ++ [j]) := by simpa using hy
    exact hall x hx
  · obtain ⟨r, hrr⟩ := h.fnd.start
    rw [happ]
    exact ⟨r, List.mem_append.2 (.inl hrr)⟩
  · rw [happ, List.length_append, List.count_set hlt, h.fnd.many]
    have e : R[n] = false := (List.getElem?_eq_some_iff.1 hr).2
    simp [e]
  · intro x hx k hk m hm
    exact (hset m).2 (.inr (h.shut x hx k hk m hm))
  · intro k hk m hm
    rw [hset]
    by_cases e : k = j
    · subst e; rw [hn] at hm; exact .inl (by cases hm; rfl)
    · exact .inr (h.tried k (by omega) m hm)
  · intro x hx
    rw [happ] at hx
    rcases List.mem_append.1 hx with h1 | h1
    · have := h.near x h1; omega
    · obtain rfl : x = (n, p ++ [j]) := by simpa using h1
      show valK (p ++ [j]) ≤ _
      rw [valK_snoc]
      omega
theorem Bft.fin {ps : List Int} {s : Nat} {D Q : List Arr} {v : Nat} {p : List Nat} {R : List Bool} (h : Bft ps s D v p 3 Q R) : Bfs ps s (D ++ [(v, p)]) Q R := by
  have happ : D ++ [(v, p)] ++ Q = D ++ (v, p) :: Q := by simp
  refine ⟨by rw [happ]; exact h.fnd, fun x hx k hk n hn => ?_, fun x hx y hy => ?_⟩
  · rcases List.mem_append.1 hx with h1 | h1
    · exact h.shut x h1 k hk n hn
    · obtain rfl : x = (v, p) := by simpa using h1
      exact h.tried k hk n hn
  · rw [happ] at hx
    have h1 := h.near x hx
    have h2 : valK p < valK y.2 := List.rel_of_pairwise_cons (List.pairwise_append.1 h.fnd.sorted).2.1 hy
    omega
theorem Fnd.few {ps : List Int} {s : Nat} {L : List Arr} {R : List Bool} (h : Fnd ps s L R) : L.length ≤ 31 := by
  have := List.count_le_length (a := true) (l := R)
  rw [h.many, h.len] at this
  exact this
theorem reach30 (ps : List Int) {s : Nat} (hs : s ≤ 30) : ∀ v, v ≤ 30 → ∃ p, IsWay ps s p v := by
  have up : ∀ d, s + d ≤ 30 → ∃ p, IsWay ps s p (s + d) := fun d => by
    induction d with
    | zero => intro _; exact ⟨[], fun k hk => (by cases hk), rfl⟩
    | succ d ih =>
      intro hd
      obtain ⟨p, hp⟩ := ih (by omega)
      exact ⟨_, hp.snoc (k := 2) (by omega) (stK_of (next_up ps (by omega)))⟩
  have down : ∀ d, d ≤ s → ∃ p, IsWay ps s p (s - d) := fun d => by
    induction d with
    | zero => intro _; exact ⟨[], fun k hk => (by cases hk), rfl⟩
    | succ d ih =>
      intro hd
      obtain ⟨p, hp⟩ := ih (by omega)
      refine ⟨_, hp.snoc (k := 1) (by omega) (stK_of ?_)⟩
      have := next_down ps (a := s - d) (by omega) (by omega)
      rw [this, show s - d - 1 = s - (d + 1) by omega]
  intro v hv
  rcases Nat.le_total s v with h | h
  · obtain ⟨p, hp⟩ := up (v - s) (by omega)
    rw [show s + (v - s) = v by omega] at hp
    exact ⟨p, hp⟩
  · obtain ⟨p, hp⟩ := down (s - v) (by omega)
    rw [show s - (s - v) = v by omega] at hp
    exact ⟨p, hp⟩
/-- The queue is not empty before a column has been taken. -/
theorem Bfs.more {ps : List Int} {s t : Nat} {D : List Arr} {R : List Bool} (hs : s ≤ 30) (ht : t ≤ 30) (h : Bfs ps s D [] R) (hn : ¬ ∃ r, (t, r) ∈ D) : False := by
  obtain ⟨p, hp⟩ := reach30 ps hs t ht
  obtain ⟨x, hx, _⟩ := h.cross p t hp hn
  cases hx
theorem valK_cons (k : Nat) (p : List Nat) : valK (k :: p) = (k + 1) * 4 ^ p.length + valK p := by
  refine snocRec (P := fun p => valK (k :: p) = (k + 1) * 4 ^ p.length + valK p) ?_ ?_ p
  · simp [valK]
  · intro p j ih
    rw [← List.cons_append, valK_snoc, ih, valK_snoc, List.length_append, List.length_singleton, Nat.pow_succ]
    generalize 4 ^ p.length = y
    rw [Nat.mul_add, ← Nat.mul_assoc, Nat.mul_comm 4 (k + 1), Nat.mul_assoc, Nat.mul_comm 4 y]
    omega
theorem valK_lt (p : List Nat) (h : ∀ k ∈ p, k < 3) : valK p < 4 ^ p.length := by
  refine snocRec (P := fun p => (∀ k ∈ p, k < 3) → valK p < 4 ^ p.length) ?_ ?_ p h
  · intro _; decide
  · intro p j ih hp
    have h1 := ih (fun k hk => hp k (by simp [hk]))
    have h2 := hp j (by simp)
    rw [valK_snoc, List.length_append, List.length_singleton, Nat.pow_succ]
    omega
/-- The moves of the least way, as numbers. -/
def wayK (ps : List Int) (D : Nat → Int) : Nat → Nat → List Nat
  | 0, _ => []
  | f + 1, a => if D a ≤ 0 then [] else firstK ps D a :: wayK ps D f (nextP ps a (mvB (firstK ps D a))).toNat
theorem way_map (ps : List Int) (D : Nat → Int) : ∀ f a, wayL ps D f a = (wayK ps D f a).map mvB
  | 0, a => rfl
  | f + 1, a => by
    rw [wayL, wayK]
    split
    · rfl
    · rw [List.map_cons, way_map]
theorem wayK_way {ps : List Int} {t : Nat} {D : Nat → Int} (h : IsFar ps t D) : ∀ f a : Nat, a ≤ 30 → D a ≤ (f : Int) → IsWay ps a (wayK ps D f a) t ∧ ((wayK ps D f a).length : Int) = D a
  | 0, a, ha, hf => by
    have hp := h.pos a ha
    have e : a = t := by
      refine Classical.byContradiction fun hne => ?_
      obtain ⟨k, hk, n, hn, hd⟩ := h.back a ha hne
      have := h.pos n (next_le hn)
      omega
    subst e
    exact ⟨⟨fun k hk => (by cases hk), rfl⟩, by rw [h.zero]; rfl⟩
  | f + 1, a, ha, hf => by
    have hp := h.pos a ha
    rw [wayK]
    split
    · have e : a = t := by
        refine Classical.byContradiction fun hne => ?_
        obtain ⟨k, hk, n, hn, hd⟩ := h.back a ha hne
        have := h.pos n (next_le hn)
        omega
      subst e
      exact ⟨⟨fun k hk => (by cases hk), rfl⟩, by rw [h.zero]; rfl⟩
    · obtain ⟨hk, n, hn, hn30, hd⟩ := first_ok h ha (by omega)
      rw [hn, Int.toNat_natCast]
      obtain ⟨h1, h2⟩ := wayK_way h f n hn30 (by omega)
      refine ⟨⟨fun k hk' => ?_, ?_⟩, by rw [List.length_cons]; omega⟩
      · rcases List.mem_cons.1 hk' with rfl | h3
        · exact hk
        · exact h1.1 k h3
      · simp only [endK, stK_of hn, Option.bind_some]
        exact h1.2
theorem way_long {ps : List Int} {t : Nat} {D : Nat → Int} (h : IsFar ps t D) : ∀ (q : List Nat) (a : Nat), a ≤ 30 → IsWay ps a q t → D a ≤ (q.length : Int)
  | [], a, ha, hq => by
    have e : a = t := by simpa [endK] using hq.2
    subst e
    rw [h.zero]
    exact Int.le_refl _
  | k :: q, a, ha, hq => by
    have h2 := hq.2
    simp only [endK] at h2
    cases hs : stK ps a k with
    | none => rw [hs] at h2; cases h2
    | some n =>
      rw [hs] at h2
      obtain ⟨hn, hn30⟩ := stK_some hs
      have h1 := way_long h q n hn30 ⟨fun j hj => hq.1 j (by simp [hj]), h2⟩
      have h3 := h.step a ha k (hq.1 k (by simp)) n hn
      rw [List.length_cons]
      omega
theorem first_le {ps : List Int} {t : Nat} {D : Nat → Int} (h : IsFar ps t D) {a k n : Nat} (hk : k < 3) (hn : nextP ps (a : Int) (mvB k) = (n : Int)) (hd : D n + 1 = D a) : firstK ps D a ≤ k := by
  have hh : 0 ≤ nextP ps (a : Int) (mvB k) ∧ D (nextP ps (a : Int) (mvB k)).toNat + 1 = D a := by rw [hn]; exact ⟨by omega, by rw [Int.toNat_natCast]; exact hd⟩
  unfold firstK
  match k, hk, hh with
  | 0, _, hh => rw [if_pos hh]; omega
  | 1, _, hh =>
    split
    · omega
    · omega
  | 2, _, hh =>
    split
    · omega
    · split <;> omega
theorem wayK_least {ps : List Int} {t : Nat} {D : Nat → Int} (h : IsFar ps t D) : ∀ (q : List Nat) (f a : Nat), a ≤ 30 → D a ≤ (f : Int) → IsWay ps a q t → valK (wayK ps D f a) ≤ valK q
  | [], f, a, ha, hf, hq => by
    have e : a = t := by simpa [endK] using hq.2
    subst e
    have hz := h.zero
    cases f with
    | zero => exact Nat.le_refl _
    | succ f => rw [wayK, if_pos (by omega)]; exact Nat.le_refl _
  | k :: q, f, a, ha, hf, hq => by
    obtain ⟨hw, hl⟩ := wayK_way h f a ha hf
    have hlong := way_long h (k :: q) a ha hq
    have hlt := valK_lt _ hw.1
    have hp := h.pos a ha
    have h2 := hq.2
    simp only [endK] at h2
    cases hs : stK ps a k with
    | none => rw [hs] at h2; cases h2
    | some n =>
      rw [hs] at h2
      obtain ⟨hn, hn30⟩ := stK_some hs
      have hk := hq.1 k (by simp)
      have hwq : IsWay ps n q t := ⟨fun j hj => hq.1 j (by simp [hj]), h2⟩
      have hlq := way_long h q n hn30 hwq
      have hst := h.step a ha k hk n hn
      rw [List.length_cons] at hlong
      rw [valK_cons]
      by_cases hs1 : (wayK ps D f a).length < q.length + 1
      · have h4 : 4 ^ (wayK ps D f a).length ≤ 4 ^ q.length := Nat.pow_le_pow_right (by omega) (by omega)
        have h5 : 4 ^ q.length ≤ (k + 1) * 4 ^ q.length := Nat.le_mul_of_pos_left _ (by omega)
        omega
      · have hDa : D a = (q.length : Int) + 1 := by omega
        have hDn : D n + 1 = D a := by omega
        have hf1 := first_le h hk hn hDn
        cases f with
        | zero => exfalso; omega
        | succ f =>
          have e : wayK ps D (f + 1) a = firstK ps D a :: wayK ps D f (nextP ps a (mvB (firstK ps D a))).toNat := by rw [wayK, if_neg (by omega)]
          obtain ⟨_, n', hn', hn30', hd'⟩ := first_ok h ha (by omega)
          rw [hn', Int.toNat_natCast] at e
          obtain ⟨hw', hl'⟩ := wayK_way h f n' hn30' (by omega)
          have hlt' := valK_lt _ hw'.1
          rw [e, valK_cons]
          have elen : (wayK ps D f n').length = q.length := by omega
          rw [elen] at hlt' ⊢
          by_cases hlt2 : firstK ps D a < k
          · have h6 : (firstK ps D a + 1 + 1) * 4 ^ q.length ≤ (k + 1) * 4 ^ q.length := Nat.mul_le_mul_right _ (by omega)
            rw [Nat.add_mul, Nat.one_mul] at h6
            omega
          · have ek : firstK ps D a = k := by omega
            rw [ek] at hn' ⊢
            have en : n' = n := by rw [hn] at hn'; omega
            subst en
            have := wayK_least h q f n' hn30 (by omega) hwq
            omega
/-- The first way that a search in breadth finds is the least text of the least moves. -/
theorem best_way {ps : List Int} {s t : Nat} (hs : s ≤ 30) (ht : t ≤ 30) {D : Nat → Int} (h : IsFar ps t D) {p : List Nat} (hp : IsBest ps s p t) : p.map mvB = wayP ps t s ∧ ((p.length : Nat) : Int) = farP ps t s := by
  have hf := h.far ht
  have hb : farP ps t s ≤ ((31 : Nat) : Int) := by
    have := far_30 ht hf.zero hf.step hs
    omega
  obtain ⟨hw, hl⟩ := wayK_way hf 31 s hs hb
  have h1 := wayK_least hf p 31 s hs hb hp.1
  have h2 := hp.2 _ hw
  have e := valK_inj p _ hp.1.1 hw.1 (by omega)
  rw [wayP, way_map, ← e]
  exact ⟨rfl, by rw [e]; exact hl⟩
end Go.Proofs.Ytijelimpkcnbjaa
