/- Moves of the carriage: the model's StartsOf. -/
import Derived.Test.YtijelimpkcnbjaaTm4
import Derived.Test.YtijelimpkcnbjaaTab2
namespace Go.Proofs.Ytijelimpkcnbjaa
open Go.RowKit Go.ChangeShapes Go.WideShapes Go.Deep
set_option linter.unusedVariables false
set_option linter.unusedSimpArgs false

/-- Does a word of the row begin at a column? -/
def startQ (s : ByteArray) (c : Nat) : Bool := decide (c < s.size) && (!decide ((bAt s c).toNat = 32) && (decide (c = 0) || decide ((bAt s (c - 1)).toNat = 32)))
/-- The columns below 30 of which something is true. -/
def colL (P : Nat → Bool) : List Int := ((List.range' 0 30).filter P).map (fun c : Nat => (c : Int))
theorem put_front {m : Int} : ∀ {xs : List Int}, (∀ x ∈ xs, m < x) → put8 m false xs = m :: xs
  | [], _ => by simp [put8]
  | x :: r, h => by
    have := h x (by simp)
    rw [put8, if_pos ⟨rfl, by omega⟩, if_pos this, put8_true]
theorem put_range {P : Nat → Bool} {i : Nat} : ∀ (m a : Nat), a ≤ i → i < a + m → put8 (i : Int) false (((List.range' a m).filter P).map (fun c : Nat => (c : Int))) = ((List.range' a m).filter (fun c => P c || decide (c = i))).map (fun c : Nat => (c : Int))
  | 0, a, h1, h2 => by omega
  | m + 1, a, h1, h2 => by
    have hgt : ∀ x ∈ ((List.range' (a + 1) m).filter P).map (fun c : Nat => (c : Int)), (a : Int) < x := fun x hx => by
      obtain ⟨c, hc, rfl⟩ := List.mem_map.1 hx
      have := (List.mem_range'_1.1 (List.mem_filter.1 hc).1).1
      omega
    rw [List.range'_succ]
    by_cases he : a = i
    · subst he
      have hcong : (List.range' (a + 1) m).filter (fun c => P c || decide (c = a)) = (List.range' (a + 1) m).filter P := List.filter_congr fun c hc => by
        have := (List.mem_range'_1.1 hc).1
        rw [decide_eq_false (by omega), Bool.or_false]
      rw [List.filter_cons_of_pos (p := fun c => P c || decide (c = a)) (by simp), hcong]
      cases hp : P a with
      | true =>
        rw [List.filter_cons_of_pos hp, List.map_cons, put8, if_pos ⟨rfl, Int.le_refl _⟩, if_neg (by omega), put8_true]
      | false =>
        rw [List.filter_cons_of_neg (by simp [hp]), List.map_cons, put_front hgt]
    · have ih := put_range (P := P) (i := i) m (a + 1) (by omega) (by omega)
      have hf : (P a || decide (a = i)) = P a := by rw [decide_eq_false he, Bool.or_false]
      cases hp : P a with
      | true =>
        rw [List.filter_cons_of_pos hp, List.filter_cons_of_pos (by rw [hf]; exact hp), List.map_cons, List.map_cons, put8, if_neg (by intro h; omega), ih]
      | false =>
        rw [List.filter_cons_of_neg (by simp [hp]), List.filter_cons_of_neg (by rw [hf]; simp [hp]), ih]
theorem put_col {P : Nat → Bool} {i : Nat} (h : i < 30) : put8 (i : Int) false (colL P) = colL (fun c => P c || decide (c = i)) := put_range 30 0 (by omega) (by omega)
theorem colL_congr {P Q : Nat → Bool} (h : ∀ c, c < 30 → P c = Q c) : colL P = colL Q := by
  unfold colL
  rw [List.filter_congr fun c hc => h c (by have := List.mem_range'_1.1 hc; omega)]
theorem colL_len (P : Nat → Bool) : (colL P).length ≤ 30 := by
  unfold colL
  rw [List.length_map]
  exact Nat.le_trans (List.length_filter_le _ _) (by simp)
def stR (rows : List ByteArray) : List Int × Int :=
  if 12 < rows.length then ([], 1) else if rows.all rowB = true then (colL (fun c => rows.any (fun s => startQ s c)), 0) else ([], 2)
/-- What is known behind r rows and i bytes of the next one. -/
def soFar (rows : List ByteArray) (r : Nat) (s : ByteArray) (i c : Nat) : Bool := (rows.take r).any (fun s => startQ s c) || (startQ s c && decide (c < i))
theorem soFar_zero {rows : List ByteArray} {r : Nat} {s : ByteArray} (c : Nat) : soFar rows r s 0 c = (rows.take r).any (fun s => startQ s c) := by simp [soFar]
theorem soFar_full {rows : List ByteArray} {r : Nat} {s : ByteArray} (h : rows[r]? = some s) (c : Nat) : soFar rows r s s.size c = (rows.take (r + 1)).any (fun s => startQ s c) := by
  rw [take8 h, List.any_append, soFar, List.any_cons, List.any_nil, Bool.or_false]
  congr 1
  by_cases hc : c < s.size
  · rw [decide_eq_true hc, Bool.and_true]
  · simp [startQ, hc]
theorem soFar_yes {rows : List ByteArray} {r : Nat} {s : ByteArray} {i c : Nat} (h : startQ s i = true) : (soFar rows r s i c || decide (c = i)) = soFar rows r s (i + 1) c := by
  unfold soFar
  by_cases hc : c = i
  · subst hc; simp [h]
  · rw [decide_eq_false hc, Bool.or_false]
    congr 2
    exact decide_eq_decide.2 (by omega)
theorem soFar_no {rows : List ByteArray} {r : Nat} {s : ByteArray} {i c : Nat} (h : startQ s i = false) : soFar rows r s i c = soFar rows r s (i + 1) c := by
  unfold soFar
  by_cases hc : c = i
  · subst hc; simp [h]
  · congr 2
    exact decide_eq_decide.2 (by omega)
end Go.Proofs.Ytijelimpkcnbjaa
