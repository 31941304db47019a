/- Keys and accents as plain data: letters, where they are, and when keys and accents are valid. No program is named but the shape of a key and an accent. -/
import Derived.Test.YtndodlfmjdgpcaaKeyD
import Derived.Test.YtndodlfmjdgpcaaAccentD
namespace Go.Proofs.Ytndodlfmjdgpcaa
set_option linter.unusedVariables false
set_option linter.unusedSimpArgs false

/-- A letter: one byte from 33 to 126. -/
def isLet (s : ByteArray) : Bool := match s.data.toList with
  | [c] => decide (33 ≤ c.toNat) && decide (c.toNat ≤ 126)
  | _ => false

structure SpotD where
  idx : Nat
  shift : Bool
  dead : Bool

/-- Where a letter is, in a list of letters with their spots. -/
def look (s : ByteArray) : List (ByteArray × SpotD) → Option SpotD
  | [] => none
  | x :: l => if s = x.1 then some x.2 else look s l
def keySpots (i : Nat) (k : KeyD) : List (ByteArray × SpotD) := [(k.low, ⟨i, false, k.dead⟩), (k.high, ⟨i, true, k.dead⟩)]
/-- The letters of keys, with their spots, from index i on. -/
def spots : Nat → List KeyD → List (ByteArray × SpotD)
  | _, [] => []
  | i, k :: ks => keySpots i k ++ spots (i + 1) ks

theorem look_append (s : ByteArray) : ∀ (l m : List (ByteArray × SpotD)), look s (l ++ m) = (look s l).or (look s m)
  | [], m => by simp [look]
  | x :: l, m => by
    simp only [List.cons_append, look]
    split
    · simp
    · exact look_append s l m
theorem look_spots_cons (s : ByteArray) (i : Nat) (k : KeyD) (ks : List KeyD) : look s (spots i (k :: ks)) = if s = k.low then some ⟨i, false, k.dead⟩ else if s = k.high then some ⟨i, true, k.dead⟩ else look s (spots (i + 1) ks) := by
  simp only [spots, keySpots, List.cons_append, List.nil_append, look]
theorem look_drop {s : ByteArray} {ks : List KeyD} {k : Nat} {x : KeyD} (hx : ks[k]? = some x) : look s (spots k (ks.drop k)) = if s = x.low then some ⟨k, false, x.dead⟩ else if s = x.high then some ⟨k, true, x.dead⟩ else look s (spots (k + 1) (ks.drop (k + 1))) := by
  obtain ⟨h1, rfl⟩ := List.getElem?_eq_some_iff.1 hx
  rw [List.drop_eq_getElem_cons h1, look_spots_cons]
theorem look_end {s : ByteArray} {ks : List KeyD} {k : Nat} (hk : ks.length ≤ k) : look s (spots k (ks.drop k)) = none := by
  rw [List.drop_of_length_le hk]
  rfl
theorem spots_append : ∀ (ks ls : List KeyD) (i : Nat), spots i (ks ++ ls) = spots i ks ++ spots (i + ks.length) ls
  | [], ls, i => by simp [spots]
  | k :: ks, ls, i => by
    simp only [List.cons_append, spots, spots_append ks ls (i + 1), List.length_cons, List.append_assoc]
    rw [Nat.add_assoc, Nat.add_comm 1]
theorem spots_take {ks : List KeyD} {k : Nat} {x : KeyD} (hx : ks[k]? = some x) : spots 0 (ks.take (k + 1)) = spots 0 (ks.take k) ++ keySpots k x := by
  obtain ⟨h1, rfl⟩ := List.getElem?_eq_some_iff.1 hx
  rw [List.take_succ_eq_append_getElem h1, spots_append, List.length_take, Nat.min_eq_left (by omega), Nat.zero_add]
  simp [spots]
/-- What is found is a key's, and bears the letter. -/
theorem look_some {s : ByteArray} {p : SpotD} : ∀ (ks : List KeyD) (i : Nat), look s (spots i ks) = some p → ∃ x, i ≤ p.idx ∧ ks[p.idx - i]? = some x ∧ p.dead = x.dead ∧ s = (if p.shift then x.high else x.low)
  | [], i, h => by cases h
  | k :: ks, i, h => by
    rw [look_spots_cons] at h
    split at h
    · rename_i e
      cases h
      exact ⟨k, Nat.le_refl _, by simp, rfl, e⟩
    · split at h
      · rename_i e
        cases h
        exact ⟨k, Nat.le_refl _, by simp, rfl, e⟩
      · obtain ⟨x, h1, h2, h3, h4⟩ := look_some ks (i + 1) h
        refine ⟨x, by omega, ?_, h3, h4⟩
        rw [show p.idx - i = (p.idx - (i + 1)) + 1 by omega]
        exact h2

/-- A key fits behind the letters that are there already. -/
def okKey (S : List (ByteArray × SpotD)) (k : KeyD) : Bool := isLet k.low && isLet k.high && !decide (k.low = k.high) && (look k.low S).isNone && (look k.high S).isNone
def okKeys : Nat → List KeyD → List KeyD → Bool
  | _, _, [] => true
  | i, before, k :: ks => okKey (spots 0 before) k && okKeys (i + 1) (before ++ [k]) ks
/-- An accent fits to the keys. -/
def okAcc (S : List (ByteArray × SpotD)) (a : AccentD) : Bool :=
  (match look a.mark S with | some p => p.dead | none => false) && (match look a.letter S with | some p => !p.dead | none => false) && (look a.made S).isNone && isLet a.made
/-- Two accents do not fit together. -/
def clash (a b : AccentD) : Bool := decide (a.made = b.made) || decide (a.mark = b.mark) && decide (a.letter = b.letter)
def okAccs (S : List (ByteArray × SpotD)) : List AccentD → List AccentD → Bool
  | _, [] => true
  | before, a :: as_ => okAcc S a && (before.all fun b => !clash b a) && okAccs S (before ++ [a]) as_
/-- Keys and accents are valid. -/
def validKb (ks : List KeyD) (as_ : List AccentD) : Bool := okKeys 0 [] ks && okAccs (spots 0 ks) [] as_ && decide (ks.length ≤ 40) && decide (as_.length ≤ 20)

theorem okKeys_drop {ks : List KeyD} {k : Nat} {x : KeyD} (hx : ks[k]? = some x) : okKeys k (ks.take k) (ks.drop k) = (okKey (spots 0 (ks.take k)) x && okKeys (k + 1) (ks.take (k + 1)) (ks.drop (k + 1))) := by
  obtain ⟨h1, rfl⟩ := List.getElem?_eq_some_iff.1 hx
  rw [List.drop_eq_getElem_cons h1, okKeys, List.take_succ_eq_append_getElem h1]
theorem okAccs_drop {S : List (ByteArray × SpotD)} {as_ : List AccentD} {k : Nat} {x : AccentD} (hx : as_[k]? = some x) : okAccs S (as_.take k) (as_.drop k) = (okAcc S x && ((as_.take k).all fun b => !clash b x) && okAccs S (as_.take (k + 1)) (as_.drop (k + 1))) := by
  obtain ⟨h1, rfl⟩ := List.getElem?_eq_some_iff.1 hx
  rw [List.drop_eq_getElem_cons h1, okAccs, List.take_succ_eq_append_getElem h1]

theorem str_eq_true {a b : ByteArray} (h : a = b) : (a.toList == b.toList) = true := by rw [h]; exact beq_self_eq_true _
theorem str_eq_false {a b : ByteArray} (h : ¬ a = b) : (a.toList == b.toList) = false := by
  rw [beq_eq_false_iff_ne, ByteArray.toList_eq, ByteArray.toList_eq]
  intro e
  exact h (by apply ByteArray.ext; exact Array.toList_inj.1 e)
end Go.Proofs.Ytndodlfmjdgpcaa
