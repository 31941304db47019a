/- Layouts as lists of rows: what makes one valid, where its letters are, and the reader that takes letters and ends of rows one after the other. No program is named. -/
import Derived.Lib.Hide
namespace Go.Proofs.Yticggclpaalhgaa
set_option linter.unusedVariables false
set_option linter.unusedSimpArgs false

abbrev Spots := List (UInt8 × Nat × Nat)
def look6 (c : UInt8) : Spots → Option (Nat × Nat)
  | [] => none
  | x :: l => if c = x.1 then some x.2 else look6 c l
def keyByte (c : UInt8) : Bool := (decide (33 ≤ c.toNat) && decide (c.toNat ≤ 126)) && !decide (c.toNat = 47)
def rowKeys (r : Nat) : Nat → List UInt8 → Spots
  | _, [] => []
  | j, c :: l => (c, r, j) :: rowKeys r (j + 1) l
def keysFrom : Nat → List ByteArray → Spots
  | _, [] => []
  | i, s :: l => rowKeys i 0 s.data.toList ++ keysFrom (i + 1) l
def rowOk6 (s : ByteArray) : Bool := (decide (1 ≤ s.size) && decide (s.size ≤ 12)) && s.data.toList.all keyByte
def layOk (rows : List ByteArray) : Bool := ((decide (1 ≤ rows.length) && decide (rows.length ≤ 4)) && rows.all rowOk6) && decide ((keysFrom 0 rows).map (·.1)).Nodup

theorem look6_append (c : UInt8) : ∀ (a b : Spots), look6 c (a ++ b) = (look6 c a).or (look6 c b)
  | [], b => by simp [look6]
  | x :: a, b => by
    simp only [List.cons_append, look6]
    by_cases h : c = x.1
    · simp [h]
    · simp [h, look6_append c a b]
theorem look6_none {c : UInt8} : ∀ {l : Spots}, look6 c l = none ↔ c ∉ l.map (·.1)
  | [] => by simp [look6]
  | x :: l => by
    simp only [look6, List.map_cons, List.mem_cons]
    by_cases h : c = x.1
    · simp [h]
    · simp [h, look6_none (l := l)]
theorem look6_some {c : UInt8} {l : Spots} : (look6 c l).isSome = true ↔ c ∈ l.map (·.1) := by
  cases h : look6 c l with
  | none => simp only [Option.isSome_none, Bool.false_eq_true, false_iff]; exact look6_none.1 h
  | some x =>
    simp only [Option.isSome_some, true_iff]
    rcases Classical.em (c ∈ l.map (·.1)) with h1 | h1
    · exact h1
    · rw [look6_none.2 h1] at h; cases h
theorem look6_mem {c : UInt8} {p : Nat × Nat} : ∀ {l : Spots}, look6 c l = some p → (c, p) ∈ l
  | [], h => by cases h
  | x :: l, h => by
    simp only [look6] at h
    by_cases h1 : c = x.1
    · rw [if_pos h1] at h
      cases h
      subst h1
      exact List.mem_cons_self ..
    · rw [if_neg h1] at h
      exact List.mem_cons_of_mem _ (look6_mem h)
theorem look6_of_mem {c : UInt8} {p : Nat × Nat} : ∀ {l : Spots}, (l.map (·.1)).Nodup → (c, p) ∈ l → look6 c l = some p
  | [], _, h => by cases h
  | x :: l, hn, h => by
    simp only [List.map_cons, List.nodup_cons] at hn
    simp only [look6]
    rcases List.mem_cons.1 h with rfl | h1
    · simp
    · have : c ≠ x.1 := fun e => hn.1 (by rw [← e]; exact List.mem_map_of_mem (f := (·.1)) h1)
      rw [if_neg this]
      exact look6_of_mem hn.2 h1
theorem rowKeys_fst (r : Nat) : ∀ (l : List UInt8) (j : Nat), (rowKeys r j l).map (·.1) = l
  | [], _ => rfl
  | c :: l, j => by simp [rowKeys, rowKeys_fst r l (j + 1)]
theorem rowKeys_mem {r : Nat} {e : UInt8 × Nat × Nat} : ∀ {l : List UInt8} {j : Nat}, e ∈ rowKeys r j l ↔ e.2.1 = r ∧ j ≤ e.2.2 ∧ l[e.2.2 - j]? = some e.1
  | [], j => by simp [rowKeys]
  | c :: l, j => by
    obtain ⟨x, a, b⟩ := e
    simp only [rowKeys, List.mem_cons, rowKeys_mem (l := l) (j := j + 1), Prod.mk.injEq]
    constructor
    · rintro (⟨rfl, rfl, rfl⟩ | ⟨h1, h2, h3⟩)
      · simp
      · refine ⟨h1, by omega, ?_⟩
        rw [show b - j = (b - (j + 1)) + 1 by omega]
        simpa using h3
    · rintro ⟨h1, h2, h3⟩
      rcases Nat.lt_or_ge j b with h | h
      · refine .inr ⟨h1, by omega, ?_⟩
        rw [show b - j = (b - (j + 1)) + 1 by omega] at h3
        simpa using h3
      · obtain rfl : b = j := by omega
        simp at h3
        exact .inl ⟨h3.symm, h1, rfl⟩
theorem keysFrom_mem {e : UInt8 × Nat × Nat} : ∀ {l : List ByteArray} {i : Nat}, e ∈ keysFrom i l ↔ i ≤ e.2.1 ∧ ∃ s, l[e.2.1 - i]? = some s ∧ s.data.toList[e.2.2]? = some e.1
  | [], i => by simp [keysFrom]
  | t :: l, i => by
    obtain ⟨x, a, b⟩ := e
    simp only [keysFrom, List.mem_append, rowKeys_mem, keysFrom_mem (l := l) (i := i + 1)]
    constructor
    · rintro (⟨rfl, _, h⟩ | ⟨h1, s, h2, h3⟩)
      · exact ⟨Nat.le_refl _, t, by simp, h⟩
      · refine ⟨by omega, s, ?_, h3⟩
        rw [show a - i = (a - (i + 1)) + 1 by omega]
        simpa using h2
    · rintro ⟨h1, s, h2, h3⟩
      rcases Nat.lt_or_ge i a with h | h
      · refine .inr ⟨by omega, s, ?_, h3⟩
        rw [show a - i = (a - (i + 1)) + 1 by omega] at h2
        simpa using h2
      · obtain rfl : a = i := by omega
        simp at h2
        subst h2
        exact .inl ⟨rfl, Nat.zero_le _, by simpa using h3⟩
theorem keysFrom_append : ∀ (a b : List ByteArray) (i : Nat), keysFrom i (a ++ b) = keysFrom i a ++ keysFrom (i + a.length) b
  | [], b, i => by simp [keysFrom]
  | s :: a, b, i => by
    simp only [List.cons_append, keysFrom, keysFrom_append a b (i + 1), List.append_assoc, List.length_cons]
    rw [show i + 1 + a.length = i + (a.length + 1) by omega]
theorem rowKeys_append (r : Nat) : ∀ (a b : List UInt8) (j : Nat), rowKeys r j (a ++ b) = rowKeys r j a ++ rowKeys r (j + a.length) b
  | [], b, j => by simp [rowKeys]
  | c :: a, b, j => by
    simp only [List.cons_append, rowKeys, rowKeys_append r a b (j + 1), List.length_cons]
    rw [show j + 1 + a.length = j + (a.length + 1) by omega]
theorem keysFrom_fst : ∀ (l : List ByteArray) (i : Nat), (keysFrom i l).map (·.1) = l.flatMap (·.data.toList)
  | [], _ => rfl
  | s :: l, i => by simp [keysFrom, rowKeys_fst, keysFrom_fst l (i + 1)]
theorem rowKeys_nodup (r : Nat) : ∀ (l : List UInt8) (j : Nat), (rowKeys r j l).Nodup
  | [], _ => List.nodup_nil
  | c :: l, j => by
    simp only [rowKeys, List.nodup_cons]
    refine ⟨fun h => ?_, rowKeys_nodup r l (j + 1)⟩
    have := (rowKeys_mem.1 h).2.1
    simp at this
    omega
theorem keysFrom_nodup : ∀ (l : List ByteArray) (i : Nat), (keysFrom i l).Nodup
  | [], _ => List.nodup_nil
  | s :: l, i => by
    simp only [keysFrom]
    rw [List.nodup_append]
    refine ⟨rowKeys_nodup _ _ _, keysFrom_nodup l (i + 1), fun a ha b hb e => ?_⟩
    subst e
    have h1 := (rowKeys_mem.1 ha).1
    have h2 := (keysFrom_mem.1 hb).1
    omega

theorem layOk_iff {rows : List ByteArray} : layOk rows = true ↔ (1 ≤ rows.length ∧ rows.length ≤ 4) ∧ (∀ s ∈ rows, rowOk6 s = true) ∧ ((keysFrom 0 rows).map (·.1)).Nodup := by
  simp [layOk, and_assoc]
theorem layOk_nodup {rows : List ByteArray} (h : layOk rows = true) : ((keysFrom 0 rows).map (·.1)).Nodup := (layOk_iff.1 h).2.2
/-- The model's way: each letter is found at its own place. -/
theorem layOk_finds {rows : List ByteArray} : layOk rows = true ↔ (1 ≤ rows.length ∧ rows.length ≤ 4) ∧ ∀ r s, rows[r]? = some s → rowOk6 s = true ∧ ∀ c x, s.data.toList[c]? = some x → look6 x (keysFrom 0 rows) = some (r, c) := by
  rw [layOk_iff]
  constructor
  · rintro ⟨h1, h2, h3⟩
    refine ⟨h1, fun r s hr => ⟨h2 s (List.mem_of_getElem? hr), fun c x hc => look6_of_mem h3 (keysFrom_mem.2 ⟨Nat.zero_le _, s, hr, hc⟩)⟩⟩
  · rintro ⟨h1, h2⟩
    refine ⟨h1, fun s hs => ?_, ?_⟩
    · obtain ⟨r, hr, rfl⟩ := List.getElem_of_mem hs
      exact (h2 r _ (List.getElem?_eq_getElem hr)).1
    · have hfind : ∀ e ∈ keysFrom 0 rows, look6 e.1 (keysFrom 0 rows) = some e.2 := fun e he => by
        obtain ⟨_, s, h3, h4⟩ := keysFrom_mem.1 he
        exact (h2 _ _ h3).2 _ _ h4
      rw [List.Nodup, List.pairwise_map]
      refine List.Pairwise.imp_of_mem ?_ (keysFrom_nodup rows 0)
      intro a b ha hb hab e
      have h3 := hfind a ha
      have h4 := hfind b hb
      rw [e, h4] at h3
      exact hab (Prod.ext e (Option.some.inj h3).symm)

structure Rd where
  row : Nat
  col : Nat
  spots : Spots
def Rd.letter (r : Rd) (c : UInt8) : Nat := if keyByte c = false then 2 else if (look6 c r.spots).isSome = true then 3 else if r.col = 12 then 4 else 0
def Rd.put (r : Rd) (c : UInt8) : Rd := ⟨r.row, r.col + 1, r.spots ++ [(c, r.row, r.col)]⟩
def Rd.brk (r : Rd) : Nat := if r.col = 0 ∨ r.row = 3 then 1 else 0
def Rd.next (r : Rd) : Rd := ⟨r.row + 1, 0, r.spots⟩
def Rd.stop (r : Rd) : Nat := if r.col = 0 then 1 else 0
def Rd.byte (r : Rd) (c : UInt8) : Nat := if c.toNat = 47 then r.brk else r.letter c
def Rd.putByte (r : Rd) (c : UInt8) : Rd := if c.toNat = 47 then r.next else r.put c
def rd0 : Rd := ⟨0, 0, []⟩
/-- The letters of a row: its first fault, or 0; the reader where it stopped. -/
def Rd.rowF : Rd → List UInt8 → Nat × Rd
  | r, [] => (0, r)
  | r, c :: l => if r.letter c = 0 then (r.put c).rowF l else (r.letter c, r)
/-- The rows from the i-th one on. -/
def readFrom : Nat → Rd → List ByteArray → Option Spots
  | _, r, [] => if r.stop = 0 then some r.spots else none
  | 0, r, s :: l => if (r.rowF s.data.toList).1 = 0 then readFrom 1 (r.rowF s.data.toList).2 l else none
  | i + 1, r, s :: l => if r.brk = 0 then (if (r.next.rowF s.data.toList).1 = 0 then readFrom (i + 2) (r.next.rowF s.data.toList).2 l else none) else none
def textFault : Rd → Nat → List UInt8 → Nat × Nat
  | r, i, [] => if r.stop = 0 then (0, 0) else (r.stop, i)
  | r, i, c :: l => if r.byte c = 0 then textFault (r.putByte c) (i + 1) l else (r.byte c, i)

theorem letter_zero {r : Rd} {c : UInt8} (hc : r.col ≤ 12) : r.letter c = 0 ↔ keyByte c = true ∧ c ∉ r.spots.map (·.1) ∧ r.col + 1 ≤ 12 := by
  unfold Rd.letter
  by_cases h1 : keyByte c = false
  · simp [h1]
  · simp only [Bool.not_eq_false] at h1
    rw [if_neg (by simp [h1])]
    by_cases h2 : (look6 c r.spots).isSome = true
    · rw [if_pos h2]
      have := look6_some.1 h2
      simp only [h1, true_and]
      constructor
      · intro h; cases h
      · intro h; exact absurd this h.1
    · rw [if_neg h2]
      have h3 : c ∉ r.spots.map (·.1) := fun h => h2 (look6_some.2 h)
      by_cases h4 : r.col = 12
      · rw [if_pos h4]
        simp only [h1, h3, not_false_eq_true, true_and]
        omega
      · rw [if_neg h4]
        simp only [h1, h3, not_false_eq_true, true_and, true_iff]
        omega
/-- What a row must be to be taken. -/
def rowFits (r : Rd) (l : List UInt8) : Prop := l.all keyByte = true ∧ r.col + l.length ≤ 12 ∧ (r.spots.map (·.1) ++ l).Nodup
theorem rowF_iff : ∀ (l : List UInt8) (r : Rd), r.col ≤ 12 → (r.spots.map (·.1)).Nodup → ((r.rowF l).1 = 0 ↔ rowFits r l) ∧ ((r.rowF l).1 = 0 → (r.rowF l).2 = ⟨r.row, r.col + l.length, r.spots ++ rowKeys r.row r.col l⟩)
  | [], r, hc, hn => by
    refine ⟨?_, fun _ => ?_⟩
    · simp [Rd.rowF, rowFits, hc, hn]
    · simp [Rd.rowF, rowKeys]
  | c :: l, r, hc, hn => by
    by_cases h : r.letter c = 0
    · obtain ⟨h1, h2, h3⟩ := (letter_zero hc).1 h
      have hn' : ((r.put c).spots.map (·.1)).Nodup := by
        simp only [Rd.put, List.map_append, List.map_cons, List.map_nil]
        rw [List.nodup_append]
        exact ⟨hn, by simp, fun a ha b hb e => by simp at hb; subst hb; subst e; exact h2 ha⟩
      obtain ⟨k1, k2⟩ := rowF_iff l (r.put c) (by simpa [Rd.put] using h3) hn'
      simp only [Rd.rowF, if_pos h]
      refine ⟨k1.trans ?_, fun hk => ?_⟩
      · simp only [rowFits, Rd.put, List.all_cons, h1, Bool.true_and, List.length_cons, List.map_append, List.map_cons, List.map_nil, List.append_assoc, List.cons_append, List.nil_append]
        constructor
        · rintro ⟨a, b, d⟩; exact ⟨a, by omega, d⟩
        · rintro ⟨a, b, d⟩; exact ⟨a, by omega, d⟩
      · rw [k2 hk]
        simp only [Rd.put, rowKeys, List.append_assoc, List.cons_append, List.nil_append, List.length_cons]
        rw [show r.col + 1 + l.length = r.col + (l.length + 1) by omega]
    · simp only [Rd.rowF, if_neg h]
      refine ⟨⟨fun h0 => absurd h0 h, fun ⟨a, b, d⟩ => absurd ((letter_zero hc).2 ⟨?_, ?_, ?_⟩) h⟩, fun h0 => absurd h0 h⟩
      · simp only [List.all_cons, Bool.and_eq_true] at a; exact a.1
      · rw [List.nodup_append] at d
        intro hm
        exact d.2.2 c hm c (by simp) rfl
      · simp only [List.length_cons] at b; omega
theorem size_len (s : ByteArray) : s.data.toList.length = s.size := by rw [Array.length_toList]; rfl
theorem rowOk6_iff {s : ByteArray} : rowOk6 s = true ↔ (1 ≤ s.size ∧ s.size ≤ 12) ∧ s.data.toList.all keyByte = true := by simp [rowOk6]

/-- What the rows behind the i-th one must be. -/
def restFits (i : Nat) (c : Nat) (S : Spots) (l : List ByteArray) : Prop := c ≠ 0 ∧ i + l.length ≤ 4 ∧ (∀ s ∈ l, rowOk6 s = true) ∧ (S.map (·.1) ++ (keysFrom i l).map (·.1)).Nodup
theorem readFrom_rest : ∀ (l : List ByteArray) (i c : Nat) (S : Spots), i + 1 ≤ 4 → c ≤ 12 → (S.map (·.1)).Nodup →
    (restFits (i + 1) c S l → readFrom (i + 1) ⟨i, c, S⟩ l = some (S ++ keysFrom (i + 1) l)) ∧ (¬ restFits (i + 1) c S l → readFrom (i + 1) ⟨i, c, S⟩ l = none)
  | [], i, c, S, hi, hc, hn => by
    constructor
    · rintro ⟨h1, _⟩
      simp [readFrom, Rd.stop, h1, keysFrom]
    · intro h
      have : c = 0 := Decidable.byContradiction fun h1 => h ⟨h1, by simpa using hi, fun s hs => (by cases hs), by simpa [keysFrom] using hn⟩
      simp [readFrom, Rd.stop, this]
  | s :: l, i, c, S, hi, hc, hn => by
    simp only [readFrom]
    by_cases hb : c = 0 ∨ i = 3
    · have : (Rd.brk ⟨i, c, S⟩) = 1 := by simp only [Rd.brk]; rw [if_pos hb]
      rw [this]
      refine ⟨fun h => ?_, fun _ => rfl⟩
      obtain ⟨h1, h2, _⟩ := h
      simp only [List.length_cons] at h2
      rcases hb with hb | hb
      · exact absurd hb h1
      · omega
    · have h0 : (Rd.brk ⟨i, c, S⟩) = 0 := by simp only [Rd.brk]; rw [if_neg hb]
      have hnx : Rd.next ⟨i, c, S⟩ = ⟨i + 1, 0, S⟩ := rfl
      rw [h0, if_pos rfl, hnx]
      obtain ⟨k1, k2⟩ := rowF_iff s.data.toList ⟨i + 1, 0, S⟩ (by simp) hn
      by_cases hf : ((Rd.rowF ⟨i + 1, 0, S⟩ s.data.toList).1 = 0)
      · rw [if_pos hf, k2 hf]
        obtain ⟨f1, f2, f3⟩ := k1.1 hf
        simp only [Nat.zero_add, size_len] at f2 ⊢
        have hn' : ((S ++ rowKeys (i + 1) 0 s.data.toList).map (·.1)).Nodup := by simpa [rowKeys_fst] using f3
        obtain ⟨m1, m2⟩ := readFrom_rest l (i + 1) s.size (S ++ rowKeys (i + 1) 0 s.data.toList) (by omega) f2 hn'
        have e : restFits (i + 2) s.size (S ++ rowKeys (i + 1) 0 s.data.toList) l ↔ restFits (i + 1) c S (s :: l) := by
          simp only [restFits, List.length_cons, List.mem_cons, forall_eq_or_imp, keysFrom, List.map_append, List.append_assoc, rowOk6_iff]
          constructor
          · rintro ⟨a1, a2, a3, a4⟩
            exact ⟨fun e => hb (.inl e), by omega, ⟨⟨⟨by omega, f2⟩, f1⟩, a3⟩, a4⟩
          · rintro ⟨a1, a2, ⟨a3, a5⟩, a4⟩
            exact ⟨by omega, by omega, a5, a4⟩
        refine ⟨fun h => ?_, fun h => m2 fun h' => h (e.1 h')⟩
        rw [m1 (e.2 h)]
        simp [keysFrom]
      · rw [if_neg hf]
        refine ⟨fun h => absurd (k1.2 ?_) hf, fun _ => rfl⟩
        obtain ⟨a1, a2, a3, a4⟩ := h
        have := rowOk6_iff.1 (a3 s (by simp))
        refine ⟨this.2, by simpa [size_len] using this.1.2, ?_⟩
        simp only [keysFrom, List.map_append, rowKeys_fst, ← List.append_assoc] at a4
        exact (List.nodup_append.1 a4).1
theorem readFrom_all (rows : List ByteArray) : readFrom 0 rd0 rows = if layOk rows = true then some (keysFrom 0 rows) else none := by
  cases rows with
  | nil => simp [readFrom, rd0, Rd.stop, layOk]
  | cons s l =>
    have hrd : rd0 = ⟨0, 0, []⟩ := rfl
    rw [hrd]
    simp only [readFrom]
    obtain ⟨k1, k2⟩ := rowF_iff s.data.toList ⟨0, 0, []⟩ (by simp) (by simp)
    by_cases hf : ((Rd.rowF ⟨0, 0, []⟩ s.data.toList).1 = 0)
    · rw [if_pos hf, k2 hf]
      obtain ⟨f1, f2, f3⟩ := k1.1 hf
      simp only [Nat.zero_add, size_len, List.nil_append] at f2 f3 ⊢
      have hn' : ((rowKeys 0 0 s.data.toList).map (·.1)).Nodup := by simpa [rowKeys_fst] using f3
      obtain ⟨m1, m2⟩ := readFrom_rest l 0 s.size (rowKeys 0 0 s.data.toList) (by omega) f2 hn'
      have e : restFits 1 s.size (rowKeys 0 0 s.data.toList) l ↔ layOk (s :: l) = true := by
        rw [layOk_iff]
        simp only [restFits, List.length_cons, List.mem_cons, forall_eq_or_imp, keysFrom, List.map_append, rowOk6_iff]
        constructor
        · rintro ⟨a1, a2, a3, a4⟩
          exact ⟨⟨by omega, by omega⟩, ⟨⟨⟨by omega, f2⟩, f1⟩, a3⟩, a4⟩
        · rintro ⟨a1, ⟨a3, a5⟩, a4⟩
          exact ⟨by omega, by omega, a5, a4⟩
      by_cases h : layOk (s :: l) = true
      · rw [if_pos h, m1 (e.2 h)]
        simp [keysFrom]
      · rw [if_neg h, m2 fun h' => h (e.1 h')]
    · rw [if_neg hf]
      rw [if_neg]
      intro h
      obtain ⟨_, a3, a4⟩ := layOk_iff.1 h
      have := rowOk6_iff.1 (a3 s (by simp))
      refine hf (k1.2 ⟨this.2, by simpa [size_len] using this.1.2, ?_⟩)
      simp only [keysFrom, List.map_append, rowKeys_fst] at a4
      simpa using (List.nodup_append.1 a4).1
end Go.Proofs.Yticggclpaalhgaa
