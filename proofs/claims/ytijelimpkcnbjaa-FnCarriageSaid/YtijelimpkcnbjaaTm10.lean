/- Moves of the carriage: the model's PageMoves and BestStops. -/
import Derived.Test.YtijelimpkcnbjaaTm9
namespace Go.Proofs.Ytijelimpkcnbjaa
open Go.RowKit Go.ChangeShapes Go.WideShapes Go.Deep
set_option linter.unusedVariables false
set_option linter.unusedSimpArgs false

noncomputable def pgR (ps : List Int) (rs : List ByteArray) : Int × Int := if (stB ps && decide (rs.length ≤ 12)) = true then (if rs.all rowB = true then ((pageN ps rs : Int), 0) else (0, 2)) else (0, 1)
/-- All lists of so many columns from one on, in their order. -/
def allL : Nat → Nat → List (List Int)
  | 0, _ => [[]]
  | m + 1, a => (List.range' a (31 - a)).flatMap (fun c => (allL m (c + 1)).map (fun t => (c : Int) :: t))
noncomputable def pickS (rs : List ByteArray) (acc : Option (List Int × Nat)) (S : List Int) : Option (List Int × Nat) :=
  match acc with
  | none => some (S, pageN S rs)
  | some (b, l) => if pageN S rs < l then some (S, pageN S rs) else some (b, l)
noncomputable def bestS (rs : List ByteArray) (m : Nat) : Option (List Int × Nat) := (allL m 1).foldl (pickS rs) none
/-- The walk's state, behind the columns before a. -/
noncomputable def accTo (rs : List ByteArray) (S : List Int) (m a k : Nat) (acc : Option (List Int × Nat)) : Option (List Int × Nat) :=
  (((List.range' a k).flatMap (fun c => (allL m (c + 1)).map (fun t => (c : Int) :: t))).map (fun t => S ++ t)).foldl (pickS rs) acc
theorem accTo_zero (rs : List ByteArray) (S : List Int) (m a : Nat) (acc : Option (List Int × Nat)) : accTo rs S m a 0 acc = acc := rfl
theorem accTo_next (rs : List ByteArray) (S : List Int) (m a k : Nat) (acc : Option (List Int × Nat)) : accTo rs S m a (k + 1) acc = ((allL m (a + k + 1)).map (fun t => (S ++ [((a + k : Nat) : Int)]) ++ t)).foldl (pickS rs) (accTo rs S m a k acc) := by
  rw [accTo, List.range'_concat, List.flatMap_append, List.map_append, List.foldl_append, ← accTo, Nat.one_mul]
  congr 1
  simp [List.flatMap_cons]
theorem accTo_all (rs : List ByteArray) (S : List Int) (m a : Nat) (acc : Option (List Int × Nat)) : accTo rs S m a (31 - a) acc = ((allL (m + 1) a).map (fun t => S ++ t)).foldl (pickS rs) acc := rfl
theorem OInts.stays {w w' : World} {base b n : Nat} {A : Option Addr} {S : List Int} (h : OInts w base A n S) (hg : w.grownBy w' (some b)) (hne : ∀ p, A = some p → p.block ≠ b) : OInts w' base A n S :=
  ORow.block h (fun p hp => hg.block _ (ORow.lt h p hp) (by simp; exact hne p hp))
theorem Strs.stays {w w' : World} {b n : Nat} {A : Option Addr} {S : List ByteArray} (h : Strs w A n S) (hg : w.grownBy w' (some b)) (hne : 0 < n → ∀ p, A = some p → p.block ≠ b) : Strs w' A n S := by
  by_cases h0 : 0 < n
  · exact SRow.kept (B := some ⟨b, 0, none⟩) h hg (fun p q hp hq => by cases hq; exact hne h0 p hp)
  · exact ⟨h.1, fun h1 => absurd h1 h0⟩
theorem grown_of_below11 {w w' : World} {b : Nat} (h : Below w.heap.size w w') : w.grownBy w' (some b) := grown_below h _
/-- The codes and the answer of BestStops. -/
noncomputable def bsV (o : Option (List Int × Nat)) : List Int × Int := match o with | some (L, l) => (L, (l : Int)) | none => ([], -1)
noncomputable def bestR (rs : List ByteArray) (k : Int) : List Int × Int × Int :=
  if 12 < rs.length then ([], 0, 1) else if (rs.all rowB && inR k 0 2) = true then ((bsV (bestS rs k.toNat)).1, (bsV (bestS rs k.toNat)).2, 0) else ([], 0, 2)
theorem pick_some (rs : List ByteArray) : ∀ (l : List (List Int)) (p : List Int × Nat), ∃ q, l.foldl (pickS rs) (some p) = some q
  | [], p => ⟨p, rfl⟩
  | S :: l, p => by
    rw [List.foldl_cons]
    unfold pickS
    split
    · rename_i h; cases h
    · split
      · exact pick_some rs l _
      · exact pick_some rs l _
theorem allL_cons : ∀ (m a : Nat), a + m ≤ 31 → ∃ S r, allL m a = S :: r
  | 0, a, _ => ⟨[], [], rfl⟩
  | m + 1, a, h => by
    obtain ⟨S, r, hS⟩ := allL_cons m (a + 1) (by omega)
    obtain ⟨k, hk⟩ : ∃ k, 31 - a = k + 1 := ⟨31 - a - 1, by omega⟩
    rw [allL, hk, List.range'_succ, List.flatMap_cons, hS]
    exact ⟨_, _, rfl⟩
theorem best_some (rs : List ByteArray) {m : Nat} (h : m ≤ 2) : ∃ q, bestS rs m = some q := by
  obtain ⟨S, r, hS⟩ := allL_cons m 1 (by omega)
  rw [bestS, hS, List.foldl_cons]
  exact pick_some rs r _
/-- Three results, the first one a slice of the call's own. -/
def I3Out (r : List Int × Int × Int) (w : World) (e : Ending) (w' : World) : Prop :=
  ∃ A n c, e = .returned (.tuple #[.slice A n c, .int .i64 r.2.1, .int .i64 r.2.2]) ∧ n ≤ 1048576 ∧ OInts w' w.heap.size A n r.1 ∧ Below w.heap.size w w'
theorem I3Out.bad {r : List Int × Int × Int} {w w' : World} {code : Int} (hr : r = ([], 0, code)) (hb : Below w.heap.size w w') : I3Out r w (.returned (.tuple #[.slice none 0 0, .int .i64 0, .int .i64 code])) w' := by
  subst hr
  exact ⟨none, 0, 0, rfl, by omega, ORow.nil_, hb⟩
end Go.Proofs.Ytijelimpkcnbjaa
