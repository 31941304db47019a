/- Centring: without a program, and the model's functions on single texts. -/
import Derived.Test.YtalmpiffjghhkaaByt
import Derived.Test.YtalmpiffjghhkaaTab0
namespace Go.Proofs.Ytalmpiffjghhkaa
open Go.RowKit Go.ChangeShapes Go.WideShapes Go.Deep
set_option linter.unusedVariables false
set_option linter.unusedSimpArgs false

def lineB (s : ByteArray) : Bool := decide ((s.size : Int) ≤ 100) && bytesIn 32 126 s
/-- A text that can be set. -/
def settB (s : ByteArray) : Bool := lineB s && (decide (s.size = 0) || (!decide ((bAt s 0).toNat = 32) && !decide ((bAt s (s.size - 1)).toNat = 32)))
theorem lineB_size {s : ByteArray} (h : lineB s = true) : s.size ≤ 100 := by simp only [lineB, Bool.and_eq_true, decide_eq_true_eq] at h; omega
theorem settB_line {s : ByteArray} (h : settB s = true) : lineB s = true := by simp only [settB, Bool.and_eq_true] at h; exact h.1
theorem settB_size {s : ByteArray} (h : settB s = true) : s.size ≤ 100 := lineB_size (settB_line h)
/-- The code of a text and a width. -/
def ceC (s : ByteArray) (wd : Int) : Int := if settB s = true then (if inR wd 1 100 = true then (if wd < (s.size : Int) then 5 else 0) else 2) else 2
theorem ceC_ok {s : ByteArray} {wd : Int} (h : ceC s wd = 0) : settB s = true ∧ 1 ≤ wd ∧ wd ≤ 100 ∧ (s.size : Int) ≤ wd := by
  unfold ceC at h
  split at h
  · split at h
    · rename_i h1 h2
      split at h
      · cases h
      · exact ⟨h1, (inR_iff.1 h2).1, (inR_iff.1 h2).2, by omega⟩
    · cases h
  · cases h
def ceR (s : ByteArray) (wd : Int) : ByteArray × Int := if ceC s wd = 0 then (repB 32 ((wd.toNat - s.size) / 2) ++ s, 0) else (ByteArray.empty, ceC s wd)
def riR (s : ByteArray) (wd : Int) : ByteArray × Int := if ceC s wd = 0 then (repB 32 (wd.toNat - s.size) ++ s, 0) else (ByteArray.empty, ceC s wd)
/-- The first letters of a text, a blank between two of them. -/
def spI (s : ByteArray) : Nat → List UInt8
  | 0 => []
  | k + 1 => (if k = 0 then [] else spI s k ++ [32]) ++ [bAt s k]
def spT (s : ByteArray) : ByteArray := ⟨(spI s s.size).toArray⟩
theorem spI_len (s : ByteArray) : ∀ k, (spI s k).length = 2 * k - 1
  | 0 => rfl
  | 1 => rfl
  | k + 2 => by
    rw [spI, if_neg (by omega), List.length_append, List.length_append, spI_len s (k + 1)]
    simp only [List.length_singleton]
    omega
theorem spT_size (s : ByteArray) : (spT s).size = 2 * s.size - 1 := by
  show ((spI s s.size).toArray).size = _
  rw [List.size_toArray, spI_len]
def spR (s : ByteArray) : ByteArray × Int := if settB s = true then (if (100 : Int) < ((spT s).size : Int) then (ByteArray.empty, 5) else (spT s, 0)) else (ByteArray.empty, 2)
def evI (s : ByteArray) : Nat → List UInt8
  | 0 => []
  | k + 1 => if k % 2 = 0 then evI s k ++ [bAt s k] else evI s k
def okI (s : ByteArray) : Nat → Bool
  | 0 => true
  | k + 1 => okI s k && (decide (k % 2 = 0) || decide ((bAt s k).toNat = 32))
theorem evI_len (s : ByteArray) : ∀ k, (evI s k).length ≤ k
  | 0 => Nat.le_refl _
  | k + 1 => by
    have := evI_len s k
    rw [evI]
    split
    · rw [List.length_append, List.length_singleton]; omega
    · omega
theorem okI_no {s : ByteArray} : ∀ {k n : Nat}, k ≤ n → okI s k = false → okI s n = false
  | k, 0, h, h1 => by rwa [show k = 0 by omega] at h1
  | k, n + 1, h, h1 => by
    by_cases he : k = n + 1
    · rwa [he] at h1
    · rw [okI, okI_no (k := k) (n := n) (by omega) h1]; rfl
def jnR (s : ByteArray) : ByteArray × Int := if settB s = true then (if okI s s.size = true then (⟨(evI s s.size).toArray⟩, 0) else (ByteArray.empty, 8)) else (ByteArray.empty, 2)
def unC (c : UInt8) : UInt8 := if c.toNat = 32 then 32 else 95
def unT (s : ByteArray) : ByteArray := ⟨(s.data.toList.map unC).toArray⟩
def unR (s : ByteArray) : ByteArray × Int := if settB s = true then (unT s, 0) else (ByteArray.empty, 2)
def letB (s : ByteArray) : Bool := decide (s.size = 1) && (decide (33 ≤ (bAt s 0).toNat) && decide ((bAt s 0).toNat ≤ 126))
def rlR (s : ByteArray) (wd : Int) : ByteArray × Int := if letB s = true then (if inR wd 1 100 = true then (repB (bAt s 0) wd.toNat, 0) else (ByteArray.empty, 2)) else (ByteArray.empty, 2)
def bsR (s : ByteArray) : Int × Int := if settB s = true then ((((s.size + 1) / 2 : Nat) : Int), 0) else (0, 2)
def ldR (a b : ByteArray) (wd : Int) : ByteArray × Int :=
  if (settB a && (settB b && inR wd 1 100)) = true then (if wd - ((a.size : Int) + (b.size : Int)) - 2 < 2 then (ByteArray.empty, 5) else (a ++ ⟨#[32]⟩ ++ repB 46 (wd - ((a.size : Int) + (b.size : Int)) - 2).toNat ++ ⟨#[32]⟩ ++ b, 0)) else (ByteArray.empty, 2)

theorem blanks10 (n : Nat) (hn : n ≤ 1000) (w : World) : Calls Try.prog 24 #[.int .i64 (n : Int)] w fun e w' => e = .returned (.string (repB 32 n)) ∧ Below w.heap.size w w' := by
  obtain ⟨i0, hi, hz0, hz1, hz2⟩ := info_parts Try.infoByt
  go_enter Try.func24, Try.ntmps24
  go_wp2
  go_loopw [3, 4] (fun v i wr => ∃ (k : Nat) (L : List UInt8), k ≤ n ∧ i = .int .i64 k ∧ L = List.replicate k 32 ∧ L.length = k ∧ Below w.heap.size w wr ∧ OByt wr w.heap.size v L) (fun _ i _ => n - (intOf i).toNat)
  case atStart => exact ⟨0, [], by omega, rfl, rfl, rfl, below_a1 _ _, byt_new w⟩
  case round =>
    rename World => wr
    obtain ⟨k, L, hk, rfl, hL, hLk, hbw, hrow⟩ := hrel
    have hwz := hbw.size
    replace hL := Lib.hid hL
    have hLb : L.length ≤ 1000 := by omega
    replace hLk := Lib.hid hLk
    by_cases hlt : k < n
    · have hk1 : (k : Int) < (n : Int) := by omega
      have hnx : Hid (L ++ [32] = List.replicate (k + 1) 32) := Lib.hid (by rw [hL.out, ← List.replicate_succ'])
      have hrl := Lib.hid hrow
      clear hrow
      go_wp2_with (at_builtin; refine wpList_append_own _ rfl _ _ 50 rfl w.heap.size 5 i0 _ 1 1 Try.underlying50 hi hz0 hz1 hz2 rfl (by decide) _ _ _ rfl (hrl.out.alloc _) ⟨wr.heap.size, 0, none⟩ 1 1 [.int .u8 32] rfl rfl (news8 _ _ _) (byt_one _) (by unfold maxLen; omega) (by omega) (by simp; omega) ?_)
      intro vqq wqq hownqq hgrqq hnilqq
      have hgqqq := grown_trans (grown_below (below_a1 wr _) _) hgrqq
      clear hgrqq hnilqq
      have hq : Hid (wqq.ownsRow w.heap.size 5 1 vqq ((L ++ [32]).length) ((L ++ [32]).map bytU) ∧ Below w.heap.size w wqq) := Lib.hid ⟨by rw [byt_add _ 32 32 rfl, List.length_append]; exact hownqq, hbw.grown hgqqq hwz (fun j hj => owns_ge8 hrl.out hj)⟩
      clear hownqq hgqqq
      clear hrl
      go_wp2
      go_roundw
      case rel => exact ⟨k + 1, L ++ [32], by omega, by go_num, hnx.out, by simp [hLk.out], hq.out.2, hq.out.1⟩
      case measure => simp [intOf]; omega
    · obtain rfl : k = n := by omega
      have hconv := byt_conv hrow
      obtain ⟨A5, c5', rfl⟩ := byt_form hrow
      clear hrow
      go_wp2
      go_ret
      exact ⟨by rw [repB, ← hL.out]; rfl, hbw⟩
theorem rule10 (b : UInt8) (n : Nat) (hn : n ≤ 1000) (w : World) : Calls Try.prog 19 #[.int .u8 (b.toNat : Int), .int .i64 (n : Int)] w fun e w' => e = .returned (.string (repB b n)) ∧ Below w.heap.size w w' := by
  obtain ⟨i0, hi, hz0, hz1, hz2⟩ := info_parts Try.infoByt
  go_enter Try.func19, Try.ntmps19
  go_wp2
  go_loopw [5, 6] (fun v i wr => ∃ (k : Nat) (L : List UInt8), k ≤ n ∧ i = .int .i64 k ∧ L = List.replicate k b ∧ L.length = k ∧ Below w.heap.size w wr ∧ OByt wr w.heap.size v L) (fun _ i _ => n - (intOf i).toNat)
  case atStart => exact ⟨0, [], by omega, rfl, rfl, rfl, below_a1 _ _, byt_new w⟩
  case round =>
    rename World => wr
    obtain ⟨k, L, hk, rfl, hL, hLk, hbw, hrow⟩ := hrel
    have hwz := hbw.size
    replace hL := Lib.hid hL
    have hLb : L.length ≤ 1000 := by omega
    replace hLk := Lib.hid hLk
    by_cases hlt : k < n
    · have hk1 : (k : Int) < (n : Int) := by omega
      have hnx : Hid (L ++ [b] = List.replicate (k + 1) b) := Lib.hid (by rw [hL.out, ← List.replicate_succ'])
      have hrl := Lib.hid hrow
      clear hrow
      go_wp2_with (at_builtin; refine wpList_append_own _ rfl _ _ 50 rfl w.heap.size 5 i0 _ 1 1 Try.underlying50 hi hz0 hz1 hz2 rfl (by decide) _ _ _ rfl (hrl.out.alloc _) ⟨wr.heap.size, 0, none⟩ 1 1 [.int .u8 (b.toNat : Int)] rfl rfl (news8 _ _ _) (byt_one _) (by unfold maxLen; omega) (by omega) (by simp; omega) ?_)
      intro vqq wqq hownqq hgrqq hnilqq
      have hgqqq := grown_trans (grown_below (below_a1 wr _) _) hgrqq
      clear hgrqq hnilqq
      have hq : Hid (wqq.ownsRow w.heap.size 5 1 vqq ((L ++ [b]).length) ((L ++ [b]).map bytU) ∧ Below w.heap.size w wqq) := Lib.hid ⟨by rw [byt_add _ b _ rfl, List.length_append]; exact hownqq, hbw.grown hgqqq hwz (fun j hj => owns_ge8 hrl.out hj)⟩
      clear hownqq hgqqq
      clear hrl
      go_wp2
      go_roundw
      case rel => exact ⟨k + 1, L ++ [b], by omega, by go_num, hnx.out, by simp [hLk.out], hq.out.2, hq.out.1⟩
      case measure => simp [intOf]; omega
    · obtain rfl : k = n := by omega
      have hconv := byt_conv hrow
      obtain ⟨A5, c5', rfl⟩ := byt_form hrow
      clear hrow
      go_wp2
      go_ret
      exact ⟨by rw [repB, ← hL.out]; rfl, hbw⟩
end Go.Proofs.Ytalmpiffjghhkaa
