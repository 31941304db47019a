/- Boards, their layouts, and the strokes of a text as data: what chapter 7 says of them. No program is named but by what it imports. -/
import Derived.Test.YtmnafnjhioeicaaPlaceD
import Derived.Test.YtmnafnjhioeicaaTxtB
import Derived.Lib.IndexLaws
namespace Go.Proofs.Ytmnafnjhioeicaa
set_option linter.unusedVariables false

def isIn (n lo hi : Int) : Bool := decide (lo ≤ n) && decide (n ≤ hi)
theorem isIn_iff {n lo hi : Int} : isIn n lo hi = true ↔ lo ≤ n ∧ n ≤ hi := by simp [isIn]
theorem isIn_not {n lo hi : Int} : isIn n lo hi = false ↔ ¬ (lo ≤ n ∧ n ≤ hi) := by rw [← isIn_iff]; simp
theorem getD_of' {α : Type} {xs : List α} {k : Nat} {x d : α} (h : xs[k]? = some x) : xs.getD k d = x := by simp [List.getD, h]
theorem all_drop {α : Type} {p : α → Bool} {xs : List α} {k : Nat} {x : α} (hx : xs[k]? = some x) : (xs.drop k).all p = (p x && (xs.drop (k + 1)).all p) := by
  obtain ⟨h1, rfl⟩ := List.getElem?_eq_some_iff.1 hx
  rw [List.drop_eq_getElem_cons h1]
  rfl
theorem all_end {α : Type} {p : α → Bool} {xs : List α} {k : Nat} (h : xs.length ≤ k) : (xs.drop k).all p = true := by
  rw [List.drop_of_length_le (by omega)]
  rfl

theorem idx_first {L : List UInt8} {c : UInt8} {k : Nat} (hk : L[k]? = some c) (h : ∀ j, j < k → L[j]? ≠ some c) : Lib.indexByte L c = k := by
  by_cases h0 : Lib.indexByte L c = -1
  · exact absurd hk (Lib.indexByte_none h0 k)
  · have hge := Lib.indexByte_ge L c
    obtain ⟨o, ho⟩ : ∃ o : Nat, Lib.indexByte L c = o := ⟨(Lib.indexByte L c).toNat, by omega⟩
    obtain ⟨h1, h2⟩ := Lib.indexByte_some ho
    rw [ho]
    rcases Nat.lt_trichotomy o k with h3 | h3 | h3
    · exact absurd h1 (h o h3)
    · rw [h3]
    · exact absurd hk (h2 k h3)
theorem idx_none {L : List UInt8} {c : UInt8} (h : ∀ j : Nat, L[j]? ≠ some c) : Lib.indexByte L c = -1 := by
  by_cases h0 : Lib.indexByte L c = -1
  · exact h0
  · have hge := Lib.indexByte_ge L c
    obtain ⟨o, ho⟩ : ∃ o : Nat, Lib.indexByte L c = o := ⟨(Lib.indexByte L c).toNat, by omega⟩
    exact absurd (Lib.indexByte_some ho).1 (h o)
theorem idx_lt {L : List UInt8} {c : UInt8} {o : Nat} (h : Lib.indexByte L c = o) : o < L.length := (List.getElem?_eq_some_iff.1 (Lib.indexByte_some h).1).1

/-- Byte number i stands before it already. -/
def dupAt (L : List UInt8) (i : Nat) : Bool := (L.take i).contains (L.getD i 0)
theorem dupAt_yes {L : List UInt8} {i k : Nat} {c : UInt8} (hi : L[i]? = some c) (hk : L[k]? = some c) (h : k < i) : dupAt L i = true := by
  unfold dupAt
  rw [getD_of' hi, List.contains_iff_mem]
  exact List.mem_of_getElem? (i := k) (by rw [List.getElem?_take, if_pos h]; exact hk)
theorem dupAt_no {L : List UInt8} {i : Nat} {c : UInt8} (hi : L[i]? = some c) (h : ∀ k, k < i → L[k]? ≠ some c) : dupAt L i = false := by
  unfold dupAt
  rw [getD_of' hi, Bool.eq_false_iff]
  intro hc
  obtain ⟨k, hk⟩ := List.getElem?_of_mem (List.contains_iff_mem.1 hc)
  rw [List.getElem?_take] at hk
  split at hk
  · rename_i hlt
    exact h k hlt hk
  · cases hk
theorem dupAt_idx {L : List UInt8} {i : Nat} {c : UInt8} (hi : L[i]? = some c) : dupAt L i = false ↔ Lib.indexByte L c = i := by
  constructor
  · intro h
    refine idx_first hi fun j hj hc => ?_
    rw [dupAt_yes hi hc hj] at h
    cases h
  · intro h
    exact dupAt_no hi fun k hk => (Lib.indexByte_some h).2 k hk
def distB (L : List UInt8) : Bool := (List.range L.length).all fun i => !dupAt L i
theorem distB_no {L : List UInt8} {i : Nat} (hi : i < L.length) (h : dupAt L i = true) : distB L = false := by
  unfold distB
  rw [List.all_eq_false]
  exact ⟨i, List.mem_range.2 hi, by simp [h]⟩
theorem distB_yes {L : List UInt8} (h : ∀ i, i < L.length → dupAt L i = false) : distB L = true := by
  unfold distB
  rw [List.all_eq_true]
  intro i hi
  simp [h i (List.mem_range.1 hi)]
theorem distB_at {L : List UInt8} (h : distB L = true) {i : Nat} (hi : i < L.length) : dupAt L i = false := by
  unfold distB at h
  rw [List.all_eq_true] at h
  have := h i (List.mem_range.2 hi)
  simpa using this

/-! ## Boards -/
def placeOk (p : PlaceD) : Bool := isIn p.finger 0 7 && (isIn p.row 0 3 && isIn p.effort 0 50)
theorem placeOk_iff {p : PlaceD} : placeOk p = true ↔ (0 ≤ p.finger ∧ p.finger ≤ 7) ∧ (0 ≤ p.row ∧ p.row ≤ 3) ∧ 0 ≤ p.effort ∧ p.effort ≤ 50 := by simp [placeOk, isIn_iff]
def boardOk (ps : List PlaceD) : Bool := ps.all placeOk && isIn (ps.length : Int) 1 6
theorem boardOk_iff {ps : List PlaceD} : boardOk ps = true ↔ (∀ p ∈ ps, placeOk p = true) ∧ 1 ≤ ps.length ∧ ps.length ≤ 6 := by
  simp only [boardOk, Bool.and_eq_true, List.all_eq_true, isIn_iff]
  constructor
  · rintro ⟨h, h1, h2⟩
    exact ⟨h, by omega, by omega⟩
  · rintro ⟨h, h1, h2⟩
    exact ⟨h, by omega, by omega⟩
/-- The place with a number. -/
def plc (ps : List PlaceD) (i : Nat) : PlaceD := ps.getD i ⟨0, 0, 0⟩
theorem plc_of {ps : List PlaceD} {i : Nat} {x : PlaceD} (h : ps[i]? = some x) : plc ps i = x := getD_of' h
theorem plc_ok {ps : List PlaceD} (h : boardOk ps = true) (i : Nat) : placeOk (plc ps i) = true := by
  unfold plc
  by_cases hi : i < ps.length
  · rw [getD_of' (List.getElem?_eq_getElem hi)]
    exact (boardOk_iff.1 h).1 _ (List.getElem_mem hi)
  · rw [List.getD, List.getElem?_eq_none (by omega)]
    decide
/-- What a stroke at place b costs beside its effort behind one at place a. -/
def reachI (ps : List PlaceD) (a b : Nat) : Int :=
  if a = b then 0
  else if (plc ps a).finger = (plc ps b).finger then 10 + 5 * max ((plc ps b).row - (plc ps a).row) (-((plc ps b).row - (plc ps a).row))
  else if decide ((plc ps a).finger ≤ 3) = decide ((plc ps b).finger ≤ 3) then 2 else 0
theorem reachI_range {ps : List PlaceD} (h : boardOk ps = true) (a b : Nat) : 0 ≤ reachI ps a b ∧ reachI ps a b ≤ 25 := by
  have ha := placeOk_iff.1 (plc_ok h a)
  have hb := placeOk_iff.1 (plc_ok h b)
  unfold reachI
  split
  · omega
  · split
    · omega
    · split <;> omega
def costI (ps : List PlaceD) (a b : Nat) : Int := (plc ps b).effort + reachI ps a b
theorem costI_range {ps : List PlaceD} (h : boardOk ps = true) (a b : Nat) : 0 ≤ costI ps a b ∧ costI ps a b ≤ 75 := by
  have hb := placeOk_iff.1 (plc_ok h b)
  have := reachI_range h a b
  unfold costI
  omega

/-! ## Layouts and texts -/
def layB (n : Nat) (s : ByteArray) : Bool := decide (s.size = n) && ((decide ((s.size : Int) ≤ 6) && bytesIn 32 126 s) && distB s.data.toList)
theorem layB_iff {n : Nat} {s : ByteArray} : layB n s = true ↔ s.size = n ∧ (s.size ≤ 6 ∧ bytesIn 32 126 s = true) ∧ distB s.data.toList = true := by
  simp only [layB, Bool.and_eq_true, decide_eq_true_eq]
  constructor
  · rintro ⟨h1, ⟨h2, h3⟩, h4⟩
    exact ⟨h1, ⟨by omega, h3⟩, h4⟩
  · rintro ⟨h1, ⟨h2, h3⟩, h4⟩
    exact ⟨h1, ⟨by omega, h3⟩, h4⟩
def hasL (s : ByteArray) (c : UInt8) : Bool := decide (0 ≤ Lib.indexByte s.data.toList c)
def textB (s t : ByteArray) : Bool := t.data.toList.all (hasL s)
def finCode (ps : List PlaceD) (s t : ByteArray) : Int :=
  if boardOk ps = true then (if (textB s t && (layB ps.length s && decide (t.size ≤ 400))) = true then 0 else 2) else 1
theorem finCode_cases (ps : List PlaceD) (s t : ByteArray) : finCode ps s t = 0 ∨ finCode ps s t = 1 ∨ finCode ps s t = 2 := by
  unfold finCode
  split
  · split <;> simp
  · simp
theorem finCode_ok {ps : List PlaceD} {s t : ByteArray} (h : finCode ps s t = 0) : boardOk ps = true ∧ textB s t = true ∧ layB ps.length s = true ∧ t.size ≤ 400 := by
  unfold finCode at h
  split at h
  · rename_i h1
    split at h
    · rename_i h2
      simp only [Bool.and_eq_true, decide_eq_true_eq] at h2
      exact ⟨h1, h2.1, h2.2.1, h2.2.2⟩
    · cases h
  · cases h
/-- The place of a letter. -/
def ixL (s : ByteArray) (c : UInt8) : Nat := (Lib.indexByte s.data.toList c).toNat
/-- The place of stroke number i. -/
def stk (s t : ByteArray) (i : Nat) : Nat := ixL s (t.data.toList.getD i 0)
theorem textB_at {s t : ByteArray} (h : textB s t = true) {i : Nat} (hi : i < t.size) : Lib.indexByte s.data.toList (t[i]'hi) = (stk s t i : Nat) ∧ stk s t i < s.size := by
  have h1 : (t.data.toList)[i]? = some (t[i]'hi) := byte_of hi
  have h2 := List.all_eq_true.1 h _ (List.mem_of_getElem? h1)
  simp only [hasL, decide_eq_true_eq] at h2
  have h3 : stk s t i = (Lib.indexByte s.data.toList (t[i]'hi)).toNat := by
    unfold stk ixL
    rw [getD_of' h1]
  refine ⟨by omega, ?_⟩
  have : Lib.indexByte s.data.toList (t[i]'hi) = (stk s t i : Nat) := by omega
  exact idx_lt this

/-! ## What is told of the strokes -/
/-- What stroke number i costs. -/
def costN (ps : List PlaceD) (s t : ByteArray) (i : Nat) : Int := if i = 0 then (plc ps (stk s t 0)).effort else costI ps (stk s t (i - 1)) (stk s t i)
theorem costN_range {ps : List PlaceD} (h : boardOk ps = true) (s t : ByteArray) (i : Nat) : 0 ≤ costN ps s t i ∧ costN ps s t i ≤ 75 := by
  unfold costN
  split
  · have hb := placeOk_iff.1 (plc_ok h (stk s t 0))
    omega
  · exact costI_range h _ _
def sumTo (f : Nat → Int) : Nat → Int
  | 0 => 0
  | k + 1 => sumTo f k + f k
theorem sumTo_range {f : Nat → Int} (h : ∀ i, 0 ≤ f i ∧ f i ≤ 75) : ∀ k : Nat, 0 ≤ sumTo f k ∧ sumTo f k ≤ 75 * (k : Int)
  | 0 => by simp [sumTo]
  | k + 1 => by
    have h1 := sumTo_range h k
    have h2 := h k
    simp only [sumTo]
    omega
def cntTo (f : Nat → Bool) : Nat → Nat
  | 0 => 0
  | k + 1 => cntTo f k + (if f k = true then 1 else 0)
theorem cntTo_le (f : Nat → Bool) : ∀ k, cntTo f k ≤ k
  | 0 => Nat.le_refl _
  | k + 1 => by
    have := cntTo_le f k
    simp only [cntTo]
    split <;> omega
theorem cntTo_yes {f : Nat → Bool} {k : Nat} (h : f k = true) : cntTo f (k + 1) = cntTo f k + 1 := by simp [cntTo, h]
theorem cntTo_no {f : Nat → Bool} {k : Nat} (h : f k = false) : cntTo f (k + 1) = cntTo f k := by simp [cntTo, h]
theorem cntTo_not (f : Nat → Bool) : ∀ k, cntTo (fun i => !f i) k + cntTo f k = k
  | 0 => rfl
  | k + 1 => by
    have := cntTo_not f k
    simp only [cntTo]
    by_cases hf : f k = true
    · simp [hf]
      omega
    · simp [hf]
      omega
def rightN (ps : List PlaceD) (s t : ByteArray) (i : Nat) : Bool := decide (4 ≤ (plc ps (stk s t i)).finger)
def leftN (ps : List PlaceD) (s t : ByteArray) (i : Nat) : Bool := decide ((plc ps (stk s t i)).finger ≤ 3)
theorem leftN_is (ps : List PlaceD) (s t : ByteArray) (i : Nat) : leftN ps s t i = !rightN ps s t i := by
  unfold leftN rightN
  rw [← decide_not]
  exact decide_eq_decide.2 (by omega)
/-- Stroke i + 1 is done by another hand than stroke i. -/
def altN (ps : List PlaceD) (s t : ByteArray) (i : Nat) : Bool := rightN ps s t (i + 1) != rightN ps s t i
def fingTo (ps : List PlaceD) (s t : ByteArray) : Nat → List Int
  | 0 => List.replicate 8 0
  | k + 1 => (fingTo ps s t k).set (plc ps (stk s t k)).finger.toNat ((fingTo ps s t k).getD (plc ps (stk s t k)).finger.toNat 0 + 1)
theorem fingTo_len (ps : List PlaceD) (s t : ByteArray) : ∀ k, (fingTo ps s t k).length = 8
  | 0 => by simp [fingTo]
  | k + 1 => by simp [fingTo, fingTo_len ps s t k]
theorem fingTo_range (ps : List PlaceD) (s t : ByteArray) : ∀ (k i : Nat), 0 ≤ (fingTo ps s t k).getD i 0 ∧ (fingTo ps s t k).getD i 0 ≤ (k : Int)
  | 0, i => by
    unfold fingTo
    by_cases hi : i < 8
    · rw [getD_of' (x := 0) (by rw [List.getElem?_replicate, if_pos hi])]
      omega
    · rw [List.getD, List.getElem?_eq_none (by simp; omega)]
      simp
  | k + 1, i => by
    have h1 := fingTo_range ps s t k i
    have h2 := fingTo_range ps s t k (plc ps (stk s t k)).finger.toNat
    have hl := fingTo_len ps s t k
    unfold fingTo
    generalize (plc ps (stk s t k)).finger.toNat = q at *
    generalize fingTo ps s t k = L at *
    by_cases hq : q = i
    · subst hq
      by_cases hlt : q < L.length
      · rw [getD_of' (List.getElem?_set_self hlt)]
        omega
      · rw [List.getD, List.getElem?_eq_none (by simp; omega)]
        simp
        omega
    · rw [List.getD, List.getElem?_set_ne hq, ← List.getD]
      omega
/-- The first of the dearest among the strokes 1 to k - 1 (2 ≤ k). -/
def bestTo (f : Nat → Int) : Nat → Nat
  | 0 => 1
  | 1 => 1
  | 2 => 1
  | k + 3 => if f (bestTo f (k + 2)) < f (k + 2) then k + 2 else bestTo f (k + 2)
theorem bestTo_lt (f : Nat → Int) : ∀ k, 2 ≤ k → 1 ≤ bestTo f k ∧ bestTo f k < k
  | 0, h => by omega
  | 1, h => by omega
  | 2, _ => by simp [bestTo]
  | k + 3, _ => by
    have := bestTo_lt f (k + 2) (by omega)
    simp only [bestTo]
    split <;> omega
theorem bestTo_next {f : Nat → Int} {k : Nat} (h : 2 ≤ k) : bestTo f (k + 1) = if f (bestTo f k) < f k then k else bestTo f k := by
  obtain ⟨m, rfl⟩ : ∃ m, k = m + 2 := ⟨k - 2, by omega⟩
  rfl
def strokeR (ps : List PlaceD) (a b : Int) : Int × Int :=
  if boardOk ps = true then (if (isIn a 0 ((ps.length : Int) - 1) && isIn b 0 ((ps.length : Int) - 1)) = true then (costI ps a.toNat b.toNat, 0) else (0, 2)) else (0, 1)
def costR (ps : List PlaceD) (s t : ByteArray) : Int × Int := if finCode ps s t = 0 then (sumTo (costN ps s t) t.size, 0) else (0, finCode ps s t)
def handsR (ps : List PlaceD) (s t : ByteArray) : Int × Int × Int := if finCode ps s t = 0 then ((cntTo (leftN ps s t) t.size : Int), (cntTo (rightN ps s t) t.size : Int), 0) else (0, 0, finCode ps s t)
def fingR (ps : List PlaceD) (s t : ByteArray) : List Int × Int := if finCode ps s t = 0 then (fingTo ps s t t.size, 0) else ([], finCode ps s t)
def altR (ps : List PlaceD) (s t : ByteArray) : Int × Int := if finCode ps s t = 0 then ((cntTo (altN ps s t) (t.size - 1) : Int), 0) else (0, finCode ps s t)
def dearR (ps : List PlaceD) (s t : ByteArray) : Int × Int := if finCode ps s t = 0 then (if t.size < 2 then (0, 3) else ((bestTo (costN ps s t) t.size : Int), 0)) else (0, finCode ps s t)
end Go.Proofs.Ytmnafnjhioeicaa
