/- Racks of stops: the model's functions. -/
import Derived.Test.YtijelimpkcnbjaaTab1
namespace Go.Proofs.Ytijelimpkcnbjaa
open Go.RowKit Go.ChangeShapes Go.WideShapes Go.Deep
set_option linter.unusedVariables false
set_option linter.unusedSimpArgs false

theorem contains8_drop {xs : List Int} {k : Nat} {x y : Int} (hx : xs[k]? = some y) : (xs.drop k).contains x = (x == y || (xs.drop (k + 1)).contains x) := by
  obtain ⟨h1, rfl⟩ := List.getElem?_eq_some_iff.1 hx
  rw [List.drop_eq_getElem_cons h1, List.contains_cons]
theorem contains8_end {xs : List Int} {k : Nat} {x : Int} (h : xs.length = k) : (xs.drop k).contains x = false := by
  rw [List.drop_of_length_le (by omega)]
  rfl
theorem put8_drop {m : Int} {l : List Int} {k : Nat} {x : Int} (h : l[k]? = some x) (d : Bool) : put8 m d (l.drop k) = if d = false ∧ m ≤ x then (if m < x then m :: x :: put8 m true (l.drop (k + 1)) else x :: put8 m true (l.drop (k + 1))) else x :: put8 m d (l.drop (k + 1)) := by
  obtain ⟨h1, rfl⟩ := List.getElem?_eq_some_iff.1 h
  rw [List.drop_eq_getElem_cons h1, put8]

theorem filter_snoc8 {m x : Int} {ps : List Int} {k : Nat} (hx : ps[k]? = some x) : (ps.take (k + 1)).filter (fun x => x != m) = if (x != m) = true then (ps.take k).filter (fun x => x != m) ++ [x] else (ps.take k).filter (fun x => x != m) := by
  rw [take8 hx, List.filter_append]
  cases h : (x != m) <;> simp [List.filter_cons, h]

theorem find8_drop {p : Int → Bool} {ps : List Int} {k : Nat} {x : Int} (hx : ps[k]? = some x) : (ps.drop k).find? p = if p x = true then some x else (ps.drop (k + 1)).find? p := by
  obtain ⟨h1, rfl⟩ := List.getElem?_eq_some_iff.1 hx
  rw [List.drop_eq_getElem_cons h1, List.find?_cons]
  cases p ps[k] <;> rfl

end Go.Proofs.Ytijelimpkcnbjaa
