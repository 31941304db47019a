/- Corrections: without a program: plans, lines, places. -/
import Derived.Test.YtomnnhmhmehdjaaByt
import Derived.Test.YtomnnhmhmehdjaaTab0
namespace Go.Proofs.Ytomnnhmhmehdjaa
open Go.RowKit Go.ChangeShapes Go.WideShapes Go.Deep
set_option linter.unusedVariables false
set_option linter.unusedSimpArgs false

def planC (c : UInt8) : Bool := decide (c.toNat = 46) || (decide (c.toNat = 43) || decide (c.toNat = 35))
def planB (s : ByteArray) : Bool := s.data.toList.all planC && decide (s.size ≤ 60)
def erL (l : List UInt8) : Nat := (l.filter (fun c => decide (c.toNat = 35))).length
theorem erL_next {l : List UInt8} {k : Nat} {c : UInt8} (h : l[k]? = some c) : erL (l.take (k + 1)) = erL (l.take k) + if c.toNat = 35 then 1 else 0 := by
  rw [erL, take8 h, List.filter_append, List.length_append, erL]
  congr 1
  by_cases hc : c.toNat = 35
  · simp [hc]
  · simp [hc]
theorem erL_le (l : List UInt8) : erL l ≤ l.length := List.length_filter_le _ _
def eiR (s : ByteArray) : Int × Int := if planB s = true then ((erL s.data.toList : Int), 0) else (0, 7)
def lineC (s : ByteArray) : Bool := decide ((s.size : Int) ≤ 60) && bytesIn 32 126 s
theorem lineC_size {s : ByteArray} (h : lineC s = true) : s.size ≤ 60 := by simp only [lineC, Bool.and_eq_true, decide_eq_true_eq] at h; omega
/-- The byte of a line at a place, a blank where it has none. -/
def atL (s : ByteArray) (a : Int) : UInt8 := if inR a 0 ((s.size : Int) - 1) = true then bAt s a.toNat else 32
/-- The places below 60 of which something is true. -/
def plaL (P : Nat → Bool) (k : Nat) : List Int := ((List.range' 0 k).filter P).map (fun c : Nat => (c : Int))
theorem plaL_next (P : Nat → Bool) (k : Nat) : plaL P (k + 1) = plaL P k ++ (if P k = true then [(k : Int)] else []) := by
  rw [plaL, List.range'_concat, List.filter_append, List.map_append, plaL]
  congr 1
  rw [Nat.one_mul, Nat.zero_add]
  cases h : P k with
  | true => simp [h]
  | false => simp [h]
theorem plaL_len (P : Nat → Bool) (k : Nat) : (plaL P k).length ≤ k := by
  unfold plaL
  rw [List.length_map]
  exact Nat.le_trans (List.length_filter_le _ _) (by simp)
def wrongQ (t s : ByteArray) (a : Nat) : Bool := !decide ((atL t (a : Int)).toNat = (atL s (a : Int)).toNat)
def wpR (t s : ByteArray) : List Int × Int := if (lineC t && lineC s) = true then (plaL (wrongQ t s) 60, 0) else ([], 2)
/-- How many of the plans erase a place. -/
def eraN (ps : List ByteArray) (a : Nat) : Nat := (ps.filter (fun p => decide (a < p.size) && decide ((bAt p a).toNat = 35))).length
theorem eraN_next {ps : List ByteArray} {k a : Nat} {p : ByteArray} (h : ps[k]? = some p) : eraN (ps.take (k + 1)) a = eraN (ps.take k) a + if (decide (a < p.size) && decide ((bAt p a).toNat = 35)) = true then 1 else 0 := by
  rw [eraN, take8 h, List.filter_append, List.length_append, eraN]
  congr 1
  cases hc : (decide (a < p.size) && decide ((bAt p a).toNat = 35)) with
  | true => simp [hc]
  | false => simp [hc]
theorem eraN_le (ps : List ByteArray) (a : Nat) : eraN ps a ≤ ps.length := List.length_filter_le _ _
def wornR (ps : List ByteArray) : List Int × Int := if ps.all planB = true then (if 20 < ps.length then ([], 2) else (plaL (fun a => decide (3 < eraN ps a)) 60, 0)) else ([], 7)
/-- At how many of the first places, from -60 on, a shifted line differs. -/
def shN (t s : ByteArray) (sh : Int) : Nat → Nat
  | 0 => 0
  | k + 1 => shN t s sh k + if (atL t ((k : Int) - 60 - sh)).toNat = (atL s ((k : Int) - 60)).toNat then 0 else 1
theorem shN_le (t s : ByteArray) (sh : Int) : ∀ k, shN t s sh k ≤ k
  | 0 => Nat.le_refl _
  | k + 1 => by
    have := shN_le t s sh k
    rw [shN]
    split <;> omega
def wroN (t s : ByteArray) (sh : Int) : Int := (shN t s sh 180 : Int)
/-- The best shift and its number, behind the shifts up to one. -/
def shB (t s : ByteArray) : Nat → Int × Int
  | 0 => (0, wroN t s 0)
  | k + 1 =>
    let a := if wroN t s (-((k : Int) + 1)) < (shB t s k).2 then (-((k : Int) + 1), wroN t s (-((k : Int) + 1))) else shB t s k
    if wroN t s ((k : Int) + 1) < a.2 then ((k : Int) + 1, wroN t s ((k : Int) + 1)) else a
def smR (t s : ByteArray) (m : Int) : Int × Int × Int := if (lineC t && (lineC s && inR m 0 60)) = true then ((shB t s m.toNat).1, (shB t s m.toNat).2, 0) else (0, 0, 2)
end Go.Proofs.Ytomnnhmhmehdjaa
