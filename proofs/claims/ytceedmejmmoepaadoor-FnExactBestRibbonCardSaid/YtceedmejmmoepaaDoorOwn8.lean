/- Rows of int64 and of string that a call makes by appending: small facts. -/
import Derived.Test.YtceedmejmmoepaaDoorIntO
import Derived.Test.YtceedmejmmoepaaDoorStrO
import Derived.OwnWalk
import Derived.Lib.SlFresh
import Derived.Deep.MidRow
namespace Go.Proofs.YtceedmejmmoepaaDoor
open Go.RowKit Go.ChangeShapes Go.WideShapes Go.Deep
set_option linter.unusedVariables false
set_option linter.unusedSimpArgs false

theorem news8 (w : World) (v : Value) (T : TypeId) : ∀ j u, [v][j]? = some u → (w.alloc (.cells #[v] T)).cell? ((⟨w.heap.size, 0, none⟩ : Addr).add j) = some u := by
  intro j u hj
  match j, hj with
  | 0, hj => cases hj; exact cell_new (by simp [Addr.add]) rfl
  | j + 1, hj => simp at hj
theorem one8 (x : Int) : ∀ u ∈ [Value.int .i64 x], u.oneCell' = true := by
  intro u hu
  simp only [List.mem_cons, List.not_mem_nil, or_false] at hu
  rcases hu with rfl; rfl
theorem one8s (x : ByteArray) : ∀ u ∈ [Value.string x], u.oneCell' = true := by
  intro u hu
  simp only [List.mem_cons, List.not_mem_nil, or_false] at hu
  rcases hu with rfl; rfl
theorem snoc8 (l : List Int) (x : Int) : (l ++ [x]).flatMap intC = l.flatMap intC ++ [.int .i64 x] := by simp [intC]
theorem snoc8s (l : List ByteArray) (x : ByteArray) : (l ++ [x]).flatMap strC = l.flatMap strC ++ [.string x] := by simp [strC]
theorem owns_ge8 {w : World} {base : Nat} {E : TypeId} {size n g : Nat} {v : Value} {xs : List Value} (h : w.ownsRow base E size v n xs) (hg : v.ownBlock = some g) : base ≤ g := by
  obtain ⟨_, ⟨rfl, _⟩ | ⟨g', cap, cur, rfl, hb, _⟩⟩ := h
  · cases hg
  · cases hg; exact hb
theorem owns_form8 {w : World} {base : Nat} {E : TypeId} {size n : Nat} {v : Value} {xs : List Value} (h : w.ownsRow base E size v n xs) : ∃ A c, v = .slice A n c := by
  obtain ⟨_, ⟨rfl, rfl⟩ | ⟨g', cap, cur, rfl, _⟩⟩ := h
  · exact ⟨_, _, rfl⟩
  · exact ⟨_, _, rfl⟩
theorem owns_i8 {w : World} {base n : Nat} {L : Value} {l : List Int} (hn : l.length = n) (h : w.ownsRow base 2 1 L n (l.flatMap intC)) : ∃ A c, L = .slice A n c ∧ OInts w base A n l := by
  subst hn
  exact ORow.of_owns (fun _ => rfl) h
theorem owns_s8 {w : World} {base n : Nat} {L : Value} {l : List ByteArray} (hn : l.length = n) (h : w.ownsRow base 9 1 L n (l.flatMap strC)) : ∃ A c, L = .slice A n c ∧ OStrs w base A n l := by
  subst hn
  exact ORow.of_owns (fun _ => rfl) h
theorem owns_new8 (w : World) (E : TypeId) : (w.alloc (.cells #[] E)).ownsRow w.heap.size E 1 (.slice (some ⟨w.heap.size, 0, none⟩) 0 0) 0 [] :=
  ⟨rfl, .inr ⟨w.heap.size, 0, #[], rfl, Nat.le_refl _, heap_alloc_new _ _, Nat.le_refl _, by unfold maxLen; omega, rfl, rfl⟩⟩
theorem owns_nil8 (w : World) (base : Nat) (E : TypeId) : w.ownsRow base E 1 (.slice none 0 0) 0 [] := ⟨rfl, .inl ⟨rfl, rfl⟩⟩
theorem all8_drop {α : Type} {p : α → Bool} {xs : List α} {k : Nat} {x : α} (h : xs[k]? = some x) : (xs.drop k).all p = (p x && (xs.drop (k + 1)).all p) := by
  obtain ⟨h1, rfl⟩ := List.getElem?_eq_some_iff.1 h
  rw [List.drop_eq_getElem_cons h1, List.all_cons]
theorem all8_end {α : Type} {p : α → Bool} {xs : List α} {k : Nat} (h : xs.length ≤ k) : (xs.drop k).all p = true := by
  rw [List.drop_of_length_le h]
  rfl
theorem take8 {α : Type} {xs : List α} {k : Nat} {x : α} (h : xs[k]? = some x) : xs.take (k + 1) = xs.take k ++ [x] := by
  obtain ⟨h1, rfl⟩ := List.getElem?_eq_some_iff.1 h
  exact List.take_succ_eq_append_getElem h1

theorem flat8 : ∀ (xs : List Int) (j : Nat), (xs.flatMap intC)[j]? = (xs[j]?).map fun x => Value.int .i64 x
  | [], j => by simp
  | x :: r, 0 => by simp [intC]
  | x :: r, j + 1 => by
    have h := flat8 r j
    simp only [List.flatMap_cons, intC, List.cons_append, List.nil_append, List.getElem?_cons_succ]
    exact h
theorem flat8_len : ∀ (xs : List Int), (xs.flatMap intC).length = xs.length
  | [] => rfl
  | x :: r => by simp [intC, flat8_len r]
/-- Nothing is appended. -/
theorem app_none8 (w : World) (base : Nat) (t ty e : TypeId) (i : TypeInfo) (size : Nat) (ht : Tryd.prog.underlying t = some (.slice e)) (hi : Tryd.prog.info? e = some i)
    (v : Value) (n : Nat) (xs : List Value) (hown : w.ownsRow base e size v n xs) (A : Option Addr) (c : Nat) :
    (Builtin.append_ #[t, t] ty #[v, .slice A 0 c]).run Tryd.prog w = .ok v w := by
  have hfc : (Builtin.firstCells i.size 0 (.slice A 0 c)).run Tryd.prog w = .ok #[] w := by
    cases A with
    | none => exact run_firstCells_none w i.size 0 0 c
    | some a => exact run_firstCells_some w i.size 0 a 0 c [] (by simp) (fun j u hu => by simp at hu)
  rcases hown.2 with ⟨rfl, rfl⟩ | ⟨g, cap, cur, rfl, _, _, hnc, _⟩
  · simp [Builtin.append_, run_underlying ht, sizeOf, typeInfo, hi, Builtin.lenOf, hfc]
  · simp [Builtin.append_, run_underlying ht, sizeOf, typeInfo, hi, Builtin.lenOf, hfc, hnc, storeCells]
/-- A row of int64 is appended to a row of the call's own. -/
theorem app_ints8 (w : World) (base : Nat) (ty : TypeId) (v : Value) (n : Nat) (L : List Int) (hown : w.ownsRow base 2 1 v n (L.flatMap intC)) (A : Option Addr) (m c : Nat) (ys : List Int) (hy : Ints w A m ys)
    (hnm : n + m ≤ 1000000) (hbase : base ≤ w.heap.size) :
    ∃ v' w', (Builtin.append_ #[32, 32] ty #[v, .slice A m c]).run Tryd.prog w = .ok v' w' ∧ w'.ownsRow base 2 1 v' (n + m) ((L ++ ys).flatMap intC) ∧ w.grownBy w' v.ownBlock := by
  obtain ⟨i0, hi, hz0, hz1, hz2⟩ := info_parts Tryd.infoI64
  by_cases h0 : m = 0
  · subst h0
    have hy0 : ys = [] := List.length_eq_zero_iff.1 hy.1
    subst hy0
    exact ⟨v, w, app_none8 w base _ ty _ i0 1 Tryd.underlying32 hi v n _ hown A c, by simpa using hown, grown_refl _ _⟩
  · obtain ⟨b, off, rfl, hb, hcells⟩ := hy.2 (by omega)
    obtain ⟨v', w', h1, h2, h3, _⟩ := run_append_own (P := Tryd.prog) w base 32 ty 2 i0 _ 1 8 Tryd.underlying32 hi hz0 hz1 hz2 rfl (by decide) v n _ hown ⟨b, off, none⟩ m c (ys.flatMap intC) (by rw [flat8_len, hy.1]; omega)
      (fun j u hu => by
        rw [flat8] at hu
        obtain ⟨x, hx, rfl⟩ := Option.map_eq_some_iff.1 hu
        have h1 := hcells j x hx 0 _ rfl
        unfold Addr.add
        split
        · rename_i hz; subst hz; simpa using h1
        · simpa using h1)
      (fun u hu => by
        simp only [List.mem_flatMap, intC, List.mem_singleton] at hu
        obtain ⟨x, _, rfl⟩ := hu
        rfl) (by unfold maxLen; omega) (by omega) hbase
    exact ⟨v', w', h1, by rw [List.flatMap_append]; exact h2, h3⟩

/-- A slice of int64 that the call owns, and a code. -/
def IOut (r : List Int × Int) (w : World) (e : Ending) (w' : World) : Prop :=
  ∃ A n c, e = .returned (.tuple #[.slice A n c, .int .i64 r.2]) ∧ n ≤ 1048576 ∧ OInts w' w.heap.size A n r.1 ∧ Below w.heap.size w w'
theorem IOut.bad {r : List Int × Int} {w w' : World} {code : Int} (hr : r = ([], code)) (hb : Below w.heap.size w w') : IOut r w (.returned (.tuple #[.slice none 0 0, .int .i64 code])) w' := by
  subst hr
  exact ⟨none, 0, 0, rfl, by omega, ORow.nil_, hb⟩
/-- A slice of string that the call owns, and a code. -/
def TOut (r : List ByteArray × Int) (w : World) (e : Ending) (w' : World) : Prop :=
  ∃ A n c, e = .returned (.tuple #[.slice A n c, .int .i64 r.2]) ∧ n ≤ 1048576 ∧ OStrs w' w.heap.size A n r.1 ∧ Below w.heap.size w w'
theorem TOut.bad {r : List ByteArray × Int} {w w' : World} {code : Int} (hr : r = ([], code)) (hb : Below w.heap.size w w') : TOut r w (.returned (.tuple #[.slice none 0 0, .int .i64 code])) w' := by
  subst hr
  exact ⟨none, 0, 0, rfl, by omega, ORow.nil_, hb⟩
theorem ret8_2 {p : Int × Int} {a b : Int} (h : p = (a, b)) : Ending.returned (.tuple #[.int .i64 a, .int .i64 b]) = .returned (.tuple #[.int .i64 p.1, .int .i64 p.2]) := by rw [h]
end Go.Proofs.YtceedmejmmoepaaDoor
