/- Tables: their lines, without a program. -/
import Derived.Test.YtcaojaaooadeaaaTbl0
import Derived.Test.YtcaojaaooadeaaaAl0
import Derived.Lib.Join
namespace Go.Proofs.Ytcaojaaooadeaaa
open Go.RowKit Go.ChangeShapes Go.WideShapes Go.Deep
set_option linter.unusedVariables false
set_option linter.unusedSimpArgs false

/-- A letter for a side: left or right. -/
def sideB (c : UInt8) : Bool := decide (c.toNat = 108) || decide (c.toNat = 114)
def sidesOk (s : ByteArray) : Bool := s.data.toList.all sideB
/-- A cell, filled up to a width. -/
def padC (c : UInt8) (v : Int) (s : ByteArray) : ByteArray := if c.toNat = 108 then s ++ blanksB (v - s.size).toNat else blanksB (v - s.size).toNat ++ s
/-- The cells of a row, filled up, from their sides, widths and texts. -/
def padsL : List UInt8 → List Int → List ByteArray → List ByteArray
  | c :: cs, v :: vs, s :: r => padC c v s :: padsL cs vs r
  | _, _, _ => []
def lineL (sep : List UInt8) (cells : List ByteArray) : List UInt8 := Lib.join (cells.map (·.data.toList)) sep
def lineT (gap : Nat) (cells : List ByteArray) : ByteArray := ⟨(lineL (List.replicate gap 32) cells).toArray⟩
def tlR (rows : List (List ByteArray)) (sides : ByteArray) (gap : Int) : List ByteArray × Int :=
  if tableB rows = true then (if (sidesOk sides && decide (sides.size = colsN rows) && inR gap 0 20) = true then (rows.map fun r => lineT gap.toNat (padsL sides.data.toList (widL (colsN rows) rows) r), 0) else ([], 2)) else ([], 1)
theorem padsL_len : ∀ (cs : List UInt8) (vs : List Int) (r : List ByteArray) (m : Nat), cs.length = m → vs.length = m → r.length = m → (padsL cs vs r).length = m
  | [], [], [], m, h, _, _ => h
  | c :: cs, v :: vs, s :: r, m, h1, h2, h3 => by
    simp only [List.length_cons] at h1 h2 h3
    have := padsL_len cs vs r (m - 1) (by omega) (by omega) (by omega)
    simp only [padsL, List.length_cons, this]
    omega
  | [], _ :: _, _, m, h1, h2, _ => by simp at h1 h2; omega
  | [], [], _ :: _, m, h1, _, h3 => by simp at h1 h3; omega
  | _ :: _, [], _, m, h1, h2, _ => by simp at h1 h2; omega
  | _ :: _, _ :: _, [], m, h1, _, h3 => by simp at h1 h3; omega
theorem padsL_at : ∀ (cs : List UInt8) (vs : List Int) (r : List ByteArray) (k : Nat) (c : UInt8) (v : Int) (s : ByteArray), cs[k]? = some c → vs[k]? = some v → r[k]? = some s → (padsL cs vs r)[k]? = some (padC c v s)
  | c' :: cs, v' :: vs, s' :: r, 0, c, v, s, h1, h2, h3 => by
    simp at h1 h2 h3
    subst h1 h2 h3
    simp [padsL]
  | c' :: cs, v' :: vs, s' :: r, k + 1, c, v, s, h1, h2, h3 => by
    simp at h1 h2 h3
    simp only [padsL, List.getElem?_cons_succ]
    exact padsL_at cs vs r k c v s h1 h2 h3
  | [], _, _, k, c, v, s, h1, _, _ => by simp at h1
  | _ :: _, [], _, k, c, v, s, _, h2, _ => by simp at h2
  | _ :: _, _ :: _, [], k, c, v, s, _, _, h3 => by simp at h3
theorem join_snoc8 (sep : List UInt8) : ∀ (xs : List (List UInt8)) (y : List UInt8), Lib.join (xs ++ [y]) sep = if xs = [] then y else Lib.join xs sep ++ sep ++ y
  | [], y => by simp [Lib.join, List.intercalate]
  | [x], y => by simp [Lib.join, List.intercalate, List.intersperse]
  | x :: z :: r, y => by
    have ih := join_snoc8 sep (z :: r) y
    simp only [Lib.join, List.intercalate] at ih ⊢
    simp only [List.cons_append, List.intersperse_cons_cons, List.flatten_cons] at ih ⊢
    rw [if_neg (by simp)] at ih
    rw [if_neg (by simp)]
    rw [ih]
    simp
theorem lineL_zero (sep : List UInt8) (l : List ByteArray) : lineL sep (l.take 0) = [] := rfl
theorem lineL_next {sep : List UInt8} {l : List ByteArray} {k : Nat} {x : ByteArray} (h : l[k]? = some x) : lineL sep (l.take (k + 1)) = if k = 0 then x.data.toList else lineL sep (l.take k) ++ sep ++ x.data.toList := by
  have hk : k < l.length := (List.getElem?_eq_some_iff.1 h).1
  rw [lineL, take8 h, List.map_append, List.map_singleton, join_snoc8]
  by_cases h0 : k = 0
  · subst h0; simp
  · rw [if_neg (by
      intro e
      have := congrArg List.length e
      simp only [List.length_map, List.length_take, List.length_nil] at this
      omega), if_neg h0]
    rfl
theorem lineL_len (sep : List UInt8) (hs : sep.length ≤ 20) (l : List ByteArray) (hl : ∀ x ∈ l, x.size ≤ 30) : ∀ k, k ≤ l.length → (lineL sep (l.take k)).length ≤ 50 * k
  | 0, _ => by rw [lineL_zero]; exact Nat.zero_le _
  | k + 1, h => by
    have hx : l[k]? = some (l[k]'(by omega)) := List.getElem?_eq_getElem _
    have ih := lineL_len sep hs l hl k (by omega)
    have hz := hl _ (List.mem_of_getElem? hx)
    have hz2 : (l[k]'(by omega)).data.toList.length = (l[k]'(by omega)).size := rfl
    rw [lineL_next hx]
    split
    · omega
    · simp only [List.length_append]
      omega
theorem blanksB_size (n : Nat) : (blanksB n).size = n := by simp [blanksB, ByteArray.size]
theorem padC_size {c : UInt8} {v : Int} {s : ByteArray} (h0 : (s.size : Int) ≤ v) (h : v ≤ 30) : (padC c v s).size ≤ 30 := by
  have hb : (blanksB (v - s.size).toNat).size = (v - s.size).toNat := blanksB_size _
  unfold padC
  split <;> rw [ByteArray.size_append, hb] <;> omega
theorem grL_ge : ∀ (rows : List (List ByteArray)) (i : Nat) (a : Int), a ≤ grL rows i a ∧ ∀ r ∈ rows, szI r i ≤ grL rows i a
  | [], i, a => ⟨Int.le_refl _, fun r hr => by cases hr⟩
  | x :: rs, i, a => by
    have ih := grL_ge rs i (max a (szI x i))
    simp only [grL, List.foldl_cons] at ih ⊢
    refine ⟨by omega, fun r hr => ?_⟩
    rcases List.mem_cons.1 hr with rfl | hr
    · omega
    · exact ih.2 r hr
/-- What is known of a width and of a cell of its column. -/
theorem wid_cell {rows : List (List ByteArray)} {m : Nat} (hrows : ∀ r ∈ rows, r.length = m ∧ ∀ s ∈ r, s.size ≤ 30) {k : Nat} (hk : k < m) :
    ∃ v, (widL m rows)[k]? = some v ∧ 0 ≤ v ∧ v ≤ 30 ∧ ∀ r ∈ rows, ∀ s, r[k]? = some s → (s.size : Int) ≤ v := by
  refine ⟨grL rows k 0, ?_, ?_⟩
  · rw [widL_eq (fun r hr => (hrows r hr).1)]
    simp [hk]
  · obtain ⟨h0, h1⟩ := grL_range rows k 0 (fun r hr => (hrows r hr).2) (by omega) (by omega)
    refine ⟨h0, h1, fun r hr s hs => ?_⟩
    have := (grL_ge rows k 0).2 r hr
    rw [szI, List.getD, hs] at this
    exact this
theorem pads_size {rows : List (List ByteArray)} {m : Nat} (hrows : ∀ r ∈ rows, r.length = m ∧ ∀ s ∈ r, s.size ≤ 30) {sides : ByteArray} (hs : sides.size = m) {r : List ByteArray} (hr : r ∈ rows) : ∀ x ∈ padsL sides.data.toList (widL m rows) r, x.size ≤ 30 := by
  intro x hx
  have hlen := padsL_len sides.data.toList (widL m rows) r m hs (widL_len (by simp) (fun y hy => (hrows y hy).1)) (hrows r hr).1
  obtain ⟨k, hk, rfl⟩ := List.getElem_of_mem hx
  have hkm : k < m := by omega
  obtain ⟨v, hv, v0, v30, hle⟩ := wid_cell hrows hkm
  have hrk : r[k]? = some (r[k]'(by rw [(hrows r hr).1]; exact hkm)) := List.getElem?_eq_getElem _
  have hck : sides.data.toList[k]? = some (sides[k]'(by omega)) := bytes_at8 sides (by omega)
  have h := padsL_at _ _ _ k _ _ _ hck hv hrk
  rw [List.getElem?_eq_getElem hk] at h
  rw [Option.some.inj h]
  exact padC_size (hle r hr _ hrk) v30
theorem tlR_1 {rows : List (List ByteArray)} {sides : ByteArray} {gap : Int} (h : tableB rows = false) : tlR rows sides gap = ([], 1) := by simp [tlR, h]
theorem tlR_2 {rows : List (List ByteArray)} {sides : ByteArray} {gap : Int} (h : tableB rows = true) (h2 : (sidesOk sides && decide (sides.size = colsN rows) && inR gap 0 20) = false) : tlR rows sides gap = ([], 2) := by simp [tlR, h, h2]
theorem tlR_0 {rows : List (List ByteArray)} {sides : ByteArray} {gap : Int} (h : tableB rows = true) (h2 : (sidesOk sides && decide (sides.size = colsN rows) && inR gap 0 20) = true) :
    tlR rows sides gap = (rows.map fun r => lineT gap.toNat (padsL sides.data.toList (widL (colsN rows) rows) r), 0) := by simp only [tlR, h, h2, if_true]
theorem side_drop (s : ByteArray) (k : Nat) (hk : k < s.size) : (s.data.toList.drop k).all sideB = (sideB (s[k]'hk) && (s.data.toList.drop (k + 1)).all sideB) := by
  rw [bytes_drop8 s hk, List.all_cons]
def lnB (gap : Nat) (l : List ByteArray) (k : Nat) : ByteArray := ⟨(lineL (List.replicate gap 32) (l.take k)).toArray⟩
theorem lnB_zero (gap : Nat) (l : List ByteArray) : lnB gap l 0 = ⟨#[]⟩ := rfl
theorem lnB_first {gap : Nat} {l : List ByteArray} {x : ByteArray} (h : l[0]? = some x) : lnB gap l 1 = x := by
  apply ByteArray.ext
  apply Array.toList_inj.1
  simp only [lnB, lineL_next h, if_true]
theorem lnB_next {gap : Nat} {l : List ByteArray} {k : Nat} {x : ByteArray} (h : l[k]? = some x) (hk : k ≠ 0) : lnB gap l (k + 1) = (lnB gap l k ++ blanksB gap) ++ x := by
  apply ByteArray.ext
  apply Array.toList_inj.1
  simp only [lnB, lineL_next h, if_neg hk, ByteArray.data_append, Array.toList_append, blanksB]
theorem lnB_size (gap : Nat) (hg : gap ≤ 20) (l : List ByteArray) (hl : ∀ x ∈ l, x.size ≤ 30) (k : Nat) (hk : k ≤ l.length) : (lnB gap l k).size ≤ 50 * k := by
  have := lineL_len (List.replicate gap 32) (by simpa using hg) l hl k hk
  simpa [lnB, ByteArray.size] using this
theorem lnB_all (gap : Nat) (l : List ByteArray) {m : Nat} (h : l.length = m) : lnB gap l m = lineT gap l := by rw [lnB, lineT, List.take_of_length_le (by omega)]
theorem empty_app8 (x : ByteArray) : (⟨#[]⟩ : ByteArray) ++ x = x := by
  apply ByteArray.ext
  apply Array.toList_inj.1
  simp [ByteArray.data_append]
end Go.Proofs.Ytcaojaaooadeaaa
