/- Centring: without a program, and the model's functions on single texts. -/
import Derived.Test.YtalmpiffjghhkaaDoorByt
import Derived.Test.YtalmpiffjghhkaaDoorTab0
namespace Go.Proofs.YtalmpiffjghhkaaDoor
open Go.RowKit Go.ChangeShapes Go.WideShapes Go.Deep
set_option linter.unusedVariables false
set_option linter.unusedSimpArgs false

def lineB (s : ByteArray) : Bool := decide ((s.size : Int) ≤ 100) && bytesIn 32 126 s
/-- A text that can be set. -/
def settB (s : ByteArray) : Bool := lineB s && (decide (s.size = 0) || (!decide ((bAt s 0).toNat = 32) && !decide ((bAt s (s.size - 1)).toNat = 32)))
theorem lineB_size {s : ByteArray} (h : lineB s = true) : s.size ≤ 100 := by simp only [lineB, Bool.and_eq_true, decide_eq_true_eq] at h; omega
theorem settB_line {s : ByteArray} (h : settB s = true) : lineB s = true := by simp only [settB, Bool.and_eq_true] at h; exact h.1
theorem settB_size {s : ByteArray} (h : settB s = true) : s.size ≤ 100 := lineB_size (settB_line h)
/-- The code of a text and a width. -/
def ceC (s : ByteArray) (wd : Int) : Int := if settB s = true then (if inR wd 1 100 = true then (if wd < (s.size : Int) then 5 else 0) else 2) else 2
theorem ceC_ok {s : ByteArray} {wd : Int} (h : ceC s wd = 0) : settB s = true ∧ 1 ≤ wd ∧ wd ≤ 100 ∧ (s.size : Int) ≤ wd := by
  unfold ceC at h
  split at h
  · split at h
    · rename_i h1 h2
      split at h
      · cases h
      · exact ⟨h1, (inR_iff.1 h2).1, (inR_iff.1 h2).2, by omega⟩
    · cases h
  · cases h
def ceR (s : ByteArray) (wd : Int) : ByteArray × Int := if ceC s wd = 0 then (repB 32 ((wd.toNat - s.size) / 2) ++ s, 0) else (ByteArray.empty, ceC s wd)
def riR (s : ByteArray) (wd : Int) : ByteArray × Int := if ceC s wd = 0 then (repB 32 (wd.toNat - s.size) ++ s, 0) else (ByteArray.empty, ceC s wd)
/-- The first letters of a text, a blank between two of them. -/
def spI (s : ByteArray) : Nat → List UInt8
  | 0 => []
  | k + 1 => (if k = 0 then [] else spI s k ++ [32]) ++ [bAt s k]
def spT (s : ByteArray) : ByteArray := ⟨(spI s s.size).toArray⟩
theorem spI_len (s : ByteArray) : ∀ k, (spI s k).length = 2 * k - 1
  | 0 => rfl
  | 1 => rfl
  | k + 2 => by
    rw [spI, if_neg (by omega), List.length_append, List.length_append, spI_len s (k + 1)]
    simp only [List.length_singleton]
    omega
theorem spT_size (s : ByteArray) : (spT s).size = 2 * s.size - 1 := by
  show ((spI s s.size).toArray).size = _
  rw [List.size_toArray, spI_len]
def spR (s : ByteArray) : ByteArray × Int := if settB s = true then (if (100 : Int) < ((spT s).size : Int) then (ByteArray.empty, 5) else (spT s, 0)) else (ByteArray.empty, 2)
def evI (s : ByteArray) : Nat → List UInt8
  | 0 => []
  | k + 1 => if k % 2 = 0 then evI s k ++ [bAt s k] else evI s k
def okI (s : ByteArray) : Nat → Bool
  | 0 => true
  | k + 1 => okI s k && (decide (k % 2 = 0) || decide ((bAt s k).toNat = 32))
theorem evI_len (s : ByteArray) : ∀ k, (evI s k).length ≤ k
  | 0 => Nat.le_refl _
  | k + 1 => by
    have := evI_len s k
    rw [evI]
    split
    · rw [List.length_append, List.length_singleton]; omega
    · omega
theorem okI_no {s : ByteArray} : ∀ {k n : Nat}, k ≤ n → okI s k = false → okI s n = false
  | k, 0, h, h1 => by rwa [show k = 0 by omega] at h1
  | k, n + 1, h, h1 => by
    by_cases he : k = n + 1
    · rwa [he] at h1
    · rw [okI, okI_no (k := k) (n := n) (by omega) h1]; rfl
def jnR (s : ByteArray) : ByteArray × Int := if settB s = true then (if okI s s.size = true then (⟨(evI s s.size).toArray⟩, 0) else (ByteArray.empty, 8)) else (ByteArray.empty, 2)
def unC (c : UInt8) : UInt8 := if c.toNat = 32 then 32 else 95
def unT (s : ByteArray) : ByteArray := ⟨(s.data.toList.map unC).toArray⟩
def unR (s : ByteArray) : ByteArray × Int := if settB s = true then (unT s, 0) else (ByteArray.empty, 2)
def letB (s : ByteArray) : Bool := decide (s.size = 1) && (decide (33 ≤ (bAt s 0).toNat) && decide ((bAt s 0).toNat ≤ 126))
def rlR (s : ByteArray) (wd : Int) : ByteArray × Int := if letB s = true then (if inR wd 1 100 = true then (repB (bAt s 0) wd.toNat, 0) else (ByteArray.empty, 2)) else (ByteArray.empty, 2)
def bsR (s : ByteArray) : Int × Int := if settB s = true then ((((s.size + 1) / 2 : Nat) : Int), 0) else (0, 2)
def ldR (a b : ByteArray) (wd : Int) : ByteArray × Int :=
  if (settB a && (settB b && inR wd 1 100)) = true then (if wd - ((a.size : Int) + (b.size : Int)) - 2 < 2 then (ByteArray.empty, 5) else (a ++ ⟨#[32]⟩ ++ repB 46 (wd - ((a.size : Int) + (b.size : Int)) - 2).toNat ++ ⟨#[32]⟩ ++ b, 0)) else (ByteArray.empty, 2)

theorem blanks10 (n : Nat) (hn : n ≤ 1000) (w : World) : Calls Tryd.prog 33 #[.int .i64 (n : Int)] w fun e w' => e = .returned (.string (repB 32 n)) ∧ Below w.heap.size w w' := by
  obtain ⟨i0, hi, hz0, hz1, hz2⟩ := info_parts Tryd.infoByt
  go_enter Tryd.func33, Tryd.ntmps33
  go_wp2
  go_loopw [3, 4] (fun v i wr => ∃ (k : Nat) (L : List UInt8), k ≤ n ∧ i = .int .i64 k ∧ L = List.replicate k 32 ∧ L.length = k ∧ Below w.heap.size w wr ∧ OByt wr w.heap.size v L) (fun _ i _ => n - (intOf i).toNat)
  case atStart => exact ⟨0, [], by omega, rfl, rfl, rfl, below_a1 _ _, byt_new w⟩
  case round =>
    rename World => wr
    obtain ⟨k, L, hk, rfl, hL, hLk, hbw, hrow⟩ := hrel
    have hwz := hbw.size
    replace hL := Lib.hid hL
    have hLb : L.length ≤ 1000 := by omega
    replace hLk := Lib.hid hLk
    by_cases hlt : k < n
    · have hk1 : (k : Int) < (n : Int) := by omega
      have hnx : Hid (L ++ [32] = List.replicate (k + 1) 32) := Lib.hid (by rw [hL.out, ← List.replicate_succ'])
      have hrl := Lib.hid hrow
      clear hrow
      go_wp2_with (at_builtin; refine wpList_append_own _ rfl _ _ 44 rfl w.heap.size 5 i0 _ 1 1 Tryd.underlying44 hi hz0 hz1 hz2 rfl (by decide) _ _ _ rfl (hrl.out.alloc _) ⟨wr.heap.size, 0, none⟩ 1 1 [.int .u8 32] rfl rfl (news8 _ _ _) (byt_one _) (by unfold maxLen; omega) (by omega) (by simp; omega) ?_)
      intro vqq wqq hownqq hgrqq hnilqq
      have hgqqq := grown_trans (grown_below (below_a1 wr _) _) hgrqq
      clear hgrqq hnilqq
      have hq : Hid (wqq.ownsRow w.heap.size 5 1 vqq ((L ++ [32]).length) ((L ++ [32]).map bytU) ∧ Below w.heap.size w wqq) := Lib.hid ⟨by rw [byt_add _ 32 32 rfl, List.length_append]; exact hownqq, hbw.grown hgqqq hwz (fun j hj => owns_ge8 hrl.out hj)⟩
      clear hownqq hgqqq
      clear hrl
      go_wp2
      go_roundw
      case rel => exact ⟨k + 1, L ++ [32], by omega, by go_num, hnx.out, by simp [hLk.out], hq.out.2, hq.out.1⟩
      case measure => simp [intOf]; omega
    · obtain rfl : k = n := by omega
      have hconv := byt_conv hrow
      obtain ⟨A5, c5', rfl⟩ := byt_form hrow
      clear hrow
      go_wp2
      go_ret
      exact ⟨by rw [repB, ← hL.out]; rfl, hbw⟩
theorem rule10 (b : UInt8) (n : Nat) (hn : n ≤ 1000) (w : World) : Calls Tryd.prog 44 #[.int .u8 (b.toNat : Int), .int .i64 (n : Int)] w fun e w' => e = .returned (.string (repB b n)) ∧ Below w.heap.size w w' := by
  obtain ⟨i0, hi, hz0, hz1, hz2⟩ := info_parts Tryd.infoByt
  go_enter Tryd.func44, Tryd.ntmps44
  go_wp2
  go_loopw [5, 6] (fun v i wr => ∃ (k : Nat) (L : List UInt8), k ≤ n ∧ i = .int .i64 k ∧ L = List.replicate k b ∧ L.length = k ∧ Below w.heap.size w wr ∧ OByt wr w.heap.size v L) (fun _ i _ => n - (intOf i).toNat)
  case atStart => exact ⟨0, [], by omega, rfl, rfl, rfl, below_a1 _ _, byt_new w⟩
  case round =>
    rename World => wr
    obtain ⟨k, L, hk, rfl, hL, hLk, hbw, hrow⟩ := hrel
    have hwz := hbw.size
    replace hL := Lib.hid hL
    have hLb : L.length ≤ 1000 := by omega
    replace hLk := Lib.hid hLk
    by_cases hlt : k < n
    · have hk1 : (k : Int) < (n : Int) := by omega
      have hnx : Hid (L ++ [b] = List.replicate (k + 1) b) := Lib.hid (by rw [hL.out, ← List.replicate_succ'])
      have hrl := Lib.hid hrow
      clear hrow
      go_wp2_with (at_builtin; refine wpList_append_own _ rfl _ _ 44 rfl w.heap.size 5 i0 _ 1 1 Tryd.underlying44 hi hz0 hz1 hz2 rfl (by decide) _ _ _ rfl (hrl.out.alloc _) ⟨wr.heap.size, 0, none⟩ 1 1 [.int .u8 (b.toNat : Int)] rfl rfl (news8 _ _ _) (byt_one _) (by unfold maxLen; omega) (by omega) (by simp; omega) ?_)
      intro vqq wqq hownqq hgrqq hnilqq
      have hgqqq := grown_trans (grown_below (below_a1 wr _) _) hgrqq
      clear hgrqq hnilqq
      have hq : Hid (wqq.ownsRow w.heap.size 5 1 vqq ((L ++ [b]).length) ((L ++ [b]).map bytU) ∧ Below w.heap.size w wqq) := Lib.hid ⟨by rw [byt_add _ b _ rfl, List.length_append]; exact hownqq, hbw.grown hgqqq hwz (fun j hj => owns_ge8 hrl.out hj)⟩
      clear hownqq hgqqq
      clear hrl
      go_wp2
      go_roundw
      case rel => exact ⟨k + 1, L ++ [b], by omega, by go_num, hnx.out, by simp [hLk.out], hq.out.2, hq.out.1⟩
      case measure => simp [intOf]; omega
    · obtain rfl : k = n := by omega
      have hconv := byt_conv hrow
      obtain ⟨A5, c5', rfl⟩ := byt_form hrow
      clear hrow
      go_wp2
      go_ret
      exact ⟨by rw [repB, ← hL.out]; rfl, hbw⟩
theorem text10 (s : ByteArray) {v : Bool} (hv : settB s = v) (w : World) (hs : s.size ≤ maxLen) :
    Calls Tryd.prog 37 #[.string s] w fun e w' => e = .returned (.bool v) ∧ w = w' := by
  have hc := Lib.hid (fun W => text_spec s 100 (lineB s) rfl W hs)
  unfold maxLen at hs
  have hw1 : IntKind.i64.wrap ((s.size : Int) - 1) = (s.size : Int) - 1 := IntWalk.i64_in _ (by omega)
  cases h1 : lineB s with
  | false =>
    have hr : Hid (v = false) := Lib.hid (by rw [← hv, settB, h1]; rfl)
    rw [h1] at hc
    clear hv
    go_enter Tryd.func37, Tryd.ntmps37
    go_wp2_with fail
    refine (hc.out _).mono ?_
    rintro e w1 ⟨rfl, rfl⟩
    go_wp2
    go_ret
    exact ⟨ret_bo hr.out.symm, rfl⟩
  | true =>
    rw [h1] at hc
    by_cases h0 : s.size = 0
    · have hr : Hid (v = true) := Lib.hid (by rw [← hv, settB, h1, decide_eq_true h0]; rfl)
      have g1 : ((s.size : Int) == 0) = true := beq_iff_eq.2 (by omega)
      have g2 : (s.size == 0) = true := beq_iff_eq.2 h0
      replace h0 := Lib.hid h0
      clear hv
      go_enter Tryd.func37, Tryd.ntmps37
      go_wp2_with fail
      refine (hc.out _).mono ?_
      rintro e w1 ⟨rfl, rfl⟩
      go_wp2
      go_ret
      exact ⟨ret_bo hr.out.symm, rfl⟩
    · have g1 : ((s.size : Int) == 0) = false := beq_eq_false_iff_ne.2 (by omega)
      have g2 : (s.size == 0) = false := beq_eq_false_iff_ne.2 h0
      have hp : 0 < s.size := by omega
      have hq : s.size - 1 < s.size := by omega
      have k1 : (0 : Int) < (s.size : Int) := by omega
      have k2 : (0 : Int) ≤ (s.size : Int) - 1 := by omega
      have k3 : (s.size : Int) - 1 < (s.size : Int) := by omega
      have k4 : ((s.size : Int) - 1).toNat = s.size - 1 := by omega
      have hres : Hid (v = (!decide ((s[0]'hp).toNat = 32) && !decide ((s[s.size - 1]'hq).toNat = 32))) := Lib.hid (by rw [← hv, settB, h1, decide_eq_false h0, bAt_eq hp, bAt_eq hq]; rfl)
      clear hv
      by_cases ha : (s[0]'hp).toNat = 32
      · have hr : Hid (v = false) := Lib.hid (by rw [hres.out, decide_eq_true ha]; rfl)
        have a1 : (((s[0]'hp).toNat : Int) == 32) = true := beq_iff_eq.2 (by omega)
        have a2 : (((s[0]'hp).toNat : Int) != 32) = false := by rw [bne, a1]; rfl
        have a3 : ((s[0]'hp).toNat == 32) = true := beq_iff_eq.2 ha
        replace ha := Lib.hid ha
        go_enter Tryd.func37, Tryd.ntmps37
        go_wp2_with fail
        refine (hc.out _).mono ?_
        rintro e w1 ⟨rfl, rfl⟩
        go_wp2
        go_ret
        exact ⟨ret_bo hr.out.symm, rfl⟩
      · have a1 : (((s[0]'hp).toNat : Int) == 32) = false := beq_eq_false_iff_ne.2 (by omega)
        have a2 : (((s[0]'hp).toNat : Int) != 32) = true := by rw [bne, a1]; rfl
        have a3 : ((s[0]'hp).toNat == 32) = false := beq_eq_false_iff_ne.2 ha
        by_cases hb : (s[s.size - 1]'hq).toNat = 32
        · have hr : Hid (v = false) := Lib.hid (by rw [hres.out, decide_eq_true hb, Bool.not_true, Bool.and_false])
          have b1 : (((s[s.size - 1]'hq).toNat : Int) == 32) = true := beq_iff_eq.2 (by omega)
          have b2 : (((s[s.size - 1]'hq).toNat : Int) != 32) = false := by rw [bne, b1]; rfl
          have b3 : ((s[s.size - 1]'hq).toNat == 32) = true := beq_iff_eq.2 hb
          replace ha := Lib.hid ha
          replace hb := Lib.hid hb
          go_enter Tryd.func37, Tryd.ntmps37
          go_wp2_with fail
          refine (hc.out _).mono ?_
          rintro e w1 ⟨rfl, rfl⟩
          go_wp2
          go_ret
          exact ⟨ret_bo hr.out.symm, rfl⟩
        · have hr : Hid (v = true) := Lib.hid (by rw [hres.out, decide_eq_false ha, decide_eq_false hb]; rfl)
          have b1 : (((s[s.size - 1]'hq).toNat : Int) == 32) = false := beq_eq_false_iff_ne.2 (by omega)
          have b2 : (((s[s.size - 1]'hq).toNat : Int) != 32) = true := by rw [bne, b1]; rfl
          have b3 : ((s[s.size - 1]'hq).toNat == 32) = false := beq_eq_false_iff_ne.2 hb
          replace ha := Lib.hid ha
          replace hb := Lib.hid hb
          go_enter Tryd.func37, Tryd.ntmps37
          go_wp2_with fail
          refine (hc.out _).mono ?_
          rintro e w1 ⟨rfl, rfl⟩
          go_wp2
          go_ret
          exact ⟨ret_bo hr.out.symm, rfl⟩
theorem code10 (s : ByteArray) (wd : Int) {q : Int} (hq : ceC s wd = q) (w : World) (hs : s.size ≤ maxLen) :
    Calls Tryd.prog 32 #[.string s, .int .i64 wd] w fun e w' => e = .returned (.int .i64 q) ∧ w = w' := by
  have hs' := hs
  unfold maxLen at hs'
  cases h1 : settB s with
  | false =>
    have hr : Hid (q = 2) := Lib.hid (by rw [← hq, ceC, h1]; rfl)
    have hc := Lib.hid (fun W => text10 s h1 W hs)
    clear h1 hq
    go_enter Tryd.func32, Tryd.ntmps32
    go_wp2_with fail
    refine (hc.out _).mono ?_
    rintro e w1 ⟨rfl, rfl⟩
    go_wp2
    go_ret
    exact ⟨ret_i64 hr.out.symm, rfl⟩
  | true =>
    have hc := Lib.hid (fun W => text10 s h1 W hs)
    cases h2 : inR wd 1 100 with
    | false =>
      have hr : Hid (q = 2) := Lib.hid (by rw [← hq, ceC, h1, h2]; rfl)
      have hc2 := Lib.hid (fun W => in8_spec h2 W)
      clear h1 h2 hq
      go_enter Tryd.func32, Tryd.ntmps32
      go_wp2_with fail
      refine (hc.out _).mono ?_
      rintro e w1 ⟨rfl, rfl⟩
      go_wp2_with fail
      refine (hc2.out _).mono ?_
      rintro e w1 ⟨rfl, rfl⟩
      go_wp2
      go_ret
      exact ⟨ret_i64 hr.out.symm, rfl⟩
    | true =>
      have hc2 := Lib.hid (fun W => in8_spec h2 W)
      by_cases h3 : wd < (s.size : Int)
      · have hr : Hid (q = 5) := Lib.hid (by rw [← hq, ceC, h1, h2, if_pos rfl, if_pos rfl, if_pos h3])
        clear h1 h2 hq
        go_enter Tryd.func32, Tryd.ntmps32
        go_wp2_with fail
        refine (hc.out _).mono ?_
        rintro e w1 ⟨rfl, rfl⟩
        go_wp2_with fail
        refine (hc2.out _).mono ?_
        rintro e w1 ⟨rfl, rfl⟩
        go_wp2
        go_ret
        exact ⟨ret_i64 hr.out.symm, rfl⟩
      · have hr : Hid (q = 0) := Lib.hid (by rw [← hq, ceC, h1, h2, if_pos rfl, if_pos rfl, if_neg h3])
        clear h1 h2 hq
        go_enter Tryd.func32, Tryd.ntmps32
        go_wp2_with fail
        refine (hc.out _).mono ?_
        rintro e w1 ⟨rfl, rfl⟩
        go_wp2_with fail
        refine (hc2.out _).mono ?_
        rintro e w1 ⟨rfl, rfl⟩
        go_wp2
        go_ret
        exact ⟨ret_i64 hr.out.symm, rfl⟩
set_option maxRecDepth 100000 in
set_option maxHeartbeats 2400000 in
theorem centre10_spec (s : ByteArray) (wd : Int) (w : World) (hs : s.size ≤ 1048576) (hwf : (Lit.int .i64 wd).wf = true) :
    Calls Tryd.prog 11 #[.string s, .int .i64 wd] w fun e w' => e = .returned (.tuple #[.string (ceR s wd).1, .int .i64 (ceR s wd).2]) ∧ Below w.heap.size w w' := by
  clear hwf
  generalize hr : ceR s wd = r
  replace hr := Lib.hid hr.symm
  obtain ⟨q, hq⟩ : ∃ q, ceC s wd = q := ⟨_, rfl⟩
  have hc := Lib.hid (fun W => code10 s wd hq W (by unfold maxLen; omega))
  by_cases h0 : q = 0
  · subst h0
    obtain ⟨h1, h2, h3, h4⟩ := ceC_ok hq
    have hsz := settB_size h1
    obtain ⟨W, rfl⟩ : ∃ W : Nat, wd = (W : Int) := ⟨wd.toNat, by omega⟩
    have hgood : Hid (r = (repB 32 ((W - s.size) / 2) ++ s, 0)) := Lib.hid (by rw [hr.out, ceR, if_pos hq, Int.toNat_natCast])
    obtain ⟨d, hd⟩ : ∃ d, W - s.size = d := ⟨_, rfl⟩
    rw [hd] at hgood
    have hw1 : IntKind.i64.wrap ((W : Int) - (s.size : Int)) = (d : Int) := by rw [IntWalk.i64_in _ (by omega)]; omega
    have he0 : d / 2 ≤ d := Nat.div_le_self _ _
    have hq2 := quo2 d
    obtain ⟨e, he⟩ : ∃ e, d / 2 = e := ⟨_, rfl⟩
    rw [he] at hq2 hgood he0
    have hwe : IntKind.i64.wrap (e : Int) = (e : Int) := IntWalk.i64_in _ (by omega)
    replace he := Lib.hid he
    have hbl := Lib.hid (fun W' => blanks10 e (by omega) W')
    have hbs := repB_size 32 e
    have hcat : ¬ 9223372036854775807 < (repB 32 e).size + s.size := by omega
    replace hd := Lib.hid hd
    clear hq h1 h2 h3 h4 hbs
    generalize repB 32 e = BB at *
    go_enter Tryd.func11, Tryd.ntmps11
    go_wp2_with fail
    refine (hc.out _).mono ?_
    rintro e1 w1 ⟨rfl, rfl⟩
    go_wp2_with fail
    refine (hbl.out _).mono ?_
    rintro e1 w2 ⟨rfl, hb2⟩
    go_wp2
    go_ret2
    exact ⟨ret_s10 hgood.out, hb2⟩
  · have hbad : Hid (r = (ByteArray.empty, q)) := Lib.hid (by rw [hr.out, ceR, hq, if_neg h0])
    have g0 : (q == 0) = false := beq_eq_false_iff_ne.2 h0
    replace h0 := Lib.hid h0
    clear hq
    go_enter Tryd.func11, Tryd.ntmps11
    go_wp2_with fail
    refine (hc.out _).mono ?_
    rintro e w1 ⟨rfl, rfl⟩
    go_wp2
    go_ret2
    exact ⟨ret_s10 hbad.out, Below.refl _ _⟩
set_option maxRecDepth 100000 in
set_option maxHeartbeats 2400000 in
theorem right10_spec (s : ByteArray) (wd : Int) (w : World) (hs : s.size ≤ 1048576) (hwf : (Lit.int .i64 wd).wf = true) :
    Calls Tryd.prog 13 #[.string s, .int .i64 wd] w fun e w' => e = .returned (.tuple #[.string (riR s wd).1, .int .i64 (riR s wd).2]) ∧ Below w.heap.size w w' := by
  clear hwf
  generalize hr : riR s wd = r
  replace hr := Lib.hid hr.symm
  obtain ⟨q, hq⟩ : ∃ q, ceC s wd = q := ⟨_, rfl⟩
  have hc := Lib.hid (fun W => code10 s wd hq W (by unfold maxLen; omega))
  by_cases h0 : q = 0
  · subst h0
    obtain ⟨h1, h2, h3, h4⟩ := ceC_ok hq
    have hsz := settB_size h1
    obtain ⟨W, rfl⟩ : ∃ W : Nat, wd = (W : Int) := ⟨wd.toNat, by omega⟩
    have hgood : Hid (r = (repB 32 (W - s.size) ++ s, 0)) := Lib.hid (by rw [hr.out, riR, if_pos hq, Int.toNat_natCast])
    obtain ⟨d, hd⟩ : ∃ d, W - s.size = d := ⟨_, rfl⟩
    rw [hd] at hgood
    have hw1 : IntKind.i64.wrap ((W : Int) - (s.size : Int)) = (d : Int) := by rw [IntWalk.i64_in _ (by omega)]; omega
    obtain ⟨e, he⟩ : ∃ e, d = e := ⟨_, rfl⟩
    subst he
    have hbl := Lib.hid (fun W' => blanks10 d (by omega) W')
    have hbs := repB_size 32 d
    have hcat : ¬ 9223372036854775807 < (repB 32 d).size + s.size := by omega
    replace hd := Lib.hid hd
    clear hq h1 h2 h3 h4 hbs
    generalize repB 32 d = BB at *
    go_enter Tryd.func13, Tryd.ntmps13
    go_wp2_with fail
    refine (hc.out _).mono ?_
    rintro e1 w1 ⟨rfl, rfl⟩
    go_wp2_with fail
    refine (hbl.out _).mono ?_
    rintro e1 w2 ⟨rfl, hb2⟩
    go_wp2
    go_ret2
    exact ⟨ret_s10 hgood.out, hb2⟩
  · have hbad : Hid (r = (ByteArray.empty, q)) := Lib.hid (by rw [hr.out, riR, hq, if_neg h0])
    have g0 : (q == 0) = false := beq_eq_false_iff_ne.2 h0
    replace h0 := Lib.hid h0
    clear hq
    go_enter Tryd.func13, Tryd.ntmps13
    go_wp2_with fail
    refine (hc.out _).mono ?_
    rintro e w1 ⟨rfl, rfl⟩
    go_wp2
    go_ret2
    exact ⟨ret_s10 hbad.out, Below.refl _ _⟩
theorem back10_spec (s : ByteArray) (w : World) (hs : s.size ≤ 1048576) :
    Calls Tryd.prog 23 #[.string s] w fun e w' => e = .returned (.tuple #[.int .i64 (bsR s).1, .int .i64 (bsR s).2]) ∧ Below w.heap.size w w' := by
  generalize hr : bsR s = r
  replace hr := Lib.hid hr.symm
  cases h1 : settB s with
  | false =>
    have hb : Hid (r = (0, 2)) := Lib.hid (by rw [hr.out, bsR, h1]; rfl)
    have hc := Lib.hid (fun W => text10 s h1 W (by unfold maxLen; omega))
    clear h1
    go_enter Tryd.func23, Tryd.ntmps23
    go_wp2_with fail
    refine (hc.out _).mono ?_
    rintro e w1 ⟨rfl, rfl⟩
    go_wp2
    go_ret2
    exact ⟨ret8_2 hb.out, Below.refl _ _⟩
  | true =>
    have hsz := settB_size h1
    have hb : Hid (r = ((((s.size + 1) / 2 : Nat) : Int), 0)) := Lib.hid (by rw [hr.out, bsR, h1]; rfl)
    have hc := Lib.hid (fun W => text10 s h1 W (by unfold maxLen; omega))
    have hw1 : IntKind.i64.wrap ((s.size : Int) + 1) = ((s.size + 1 : Nat) : Int) := by rw [IntWalk.i64_in _ (by omega)]; omega
    obtain ⟨n1, hn1⟩ : ∃ n1, s.size + 1 = n1 := ⟨_, rfl⟩
    rw [hn1] at hw1 hb
    have hq := quo2 n1
    obtain ⟨q, hqq⟩ : ∃ q, n1 / 2 = q := ⟨_, rfl⟩
    rw [hqq] at hq hb
    have hwq : IntKind.i64.wrap (q : Int) = (q : Int) := IntWalk.i64_in _ (by omega)
    replace hn1 := Lib.hid hn1
    replace hqq := Lib.hid hqq
    clear h1
    go_enter Tryd.func23, Tryd.ntmps23
    go_wp2_with fail
    refine (hc.out _).mono ?_
    rintro e w1 ⟨rfl, rfl⟩
    go_wp2
    go_ret2
    exact ⟨ret8_2 hb.out, Below.refl _ _⟩
end Go.Proofs.YtalmpiffjghhkaaDoor
