/- Centring: the model's functions that spread, join and underline texts, rules and leaders. -/
import Derived.Test.YtalmpiffjghhkaaDoorCen0
namespace Go.Proofs.YtalmpiffjghhkaaDoor
open Go.RowKit Go.ChangeShapes Go.WideShapes Go.Deep
set_option linter.unusedVariables false
set_option linter.unusedSimpArgs false

theorem spI_zero (s : ByteArray) : spI s 1 = [] ++ [bAt s 0] := rfl
theorem spI_next (s : ByteArray) {k : Nat} (h : k ≠ 0) : spI s (k + 1) = spI s k ++ [32] ++ [bAt s k] := by rw [spI, if_neg h]
set_option maxRecDepth 100000 in
set_option maxHeartbeats 2400000 in
theorem spread10 (s : ByteArray) (hs : s.size ≤ 1000) (w : World) : Calls Tryd.prog 38 #[.string s] w fun e w' => e = .returned (.string (spT s)) ∧ Below w.heap.size w w' := by
  obtain ⟨i0, hi, hz0, hz1, hz2⟩ := info_parts Tryd.infoByt
  go_enter Tryd.func38, Tryd.ntmps38
  go_wp2
  go_loopw [3, 4] (fun v i wr => ∃ (k : Nat) (L : List UInt8), k ≤ s.size ∧ i = .int .i64 k ∧ L = spI s k ∧ L.length ≤ 2000 ∧ Below w.heap.size w wr ∧ OByt wr w.heap.size v L) (fun _ i _ => s.size - (intOf i).toNat)
  case atStart => exact ⟨0, [], by omega, rfl, rfl, by simp, below_a1 _ _, byt_new w⟩
  case round =>
    rename World => wr
    obtain ⟨k, L, hk, rfl, hL, hLn, hbw, hrow⟩ := hrel
    have hwz := hbw.size
    replace hL := Lib.hid hL
    by_cases hlt : k < s.size
    · have hk1 : (k : Int) < (s.size : Int) := by omega
      have hbk := bAt_eq hlt
      have hln := spI_len s (k + 1)
      by_cases hk0 : k = 0
      · have g1 : decide (0 < k) = false := decide_eq_false (by omega)
        have g2 : decide ((0 : Int) < (k : Int)) = false := decide_eq_false (by omega)
        have hnx : Hid (L ++ [s[k]'hlt] = spI s (k + 1)) := Lib.hid (by rw [hL.out, ← hbk]; subst hk0; rfl)
        have hrl := Lib.hid hrow
        replace hk0 := Lib.hid hk0
        replace hbk := Lib.hid hbk
        clear hrow
        go_wp2_with (at_builtin; refine wpList_append_own _ rfl _ _ 44 rfl w.heap.size 5 i0 _ 1 1 Tryd.underlying44 hi hz0 hz1 hz2 rfl (by decide) _ _ _ rfl (hrl.out.alloc _) ⟨wr.heap.size, 0, none⟩ 1 1 [.int .u8 ((s[k]'hlt).toNat : Int)] rfl rfl (news8 _ _ _) (byt_one _) (by unfold maxLen; omega) (by omega) (by simp; omega) ?_)
        intro vqq wqq hownqq hgrqq hnilqq
        have hgqqq := grown_trans (grown_below (below_a1 wr _) _) hgrqq
        clear hgrqq hnilqq
        have hq : Hid (wqq.ownsRow w.heap.size 5 1 vqq ((L ++ [s[k]'hlt]).length) ((L ++ [s[k]'hlt]).map bytU) ∧ Below w.heap.size w wqq) := Lib.hid ⟨by rw [byt_add _ (s[k]'hlt) _ rfl, List.length_append]; exact hownqq, hbw.grown hgqqq hwz (fun j hj => owns_ge8 hrl.out hj)⟩
        clear hownqq hgqqq
        have hln2 : (L ++ [s[k]'hlt]).length ≤ 2000 := by rw [hnx.out]; omega
        replace hln2 := Lib.hid hln2
        clear hrl
        go_wp2
        go_roundw
        case rel => exact ⟨k + 1, L ++ [s[k]'hlt], by omega, by go_num, hnx.out, hln2.out, hq.out.2, hq.out.1⟩
        case measure => simp [intOf]; omega
      · have g1 : decide (0 < k) = true := decide_eq_true (by omega)
        have g2 : decide ((0 : Int) < (k : Int)) = true := decide_eq_true (by omega)
        have hnx : Hid (L ++ [32] ++ [s[k]'hlt] = spI s (k + 1)) := Lib.hid (by rw [hL.out, ← hbk, spI_next s hk0])
        have hrl := Lib.hid hrow
        replace hk0 := Lib.hid hk0
        replace hbk := Lib.hid hbk
        clear hrow
        go_wp2_with (at_builtin; refine wpList_append_own _ rfl _ _ 44 rfl w.heap.size 5 i0 _ 1 1 Tryd.underlying44 hi hz0 hz1 hz2 rfl (by decide) _ _ _ rfl (hrl.out.alloc _) ⟨wr.heap.size, 0, none⟩ 1 1 [.int .u8 32] rfl rfl (news8 _ _ _) (byt_one _) (by unfold maxLen; omega) (by omega) (by simp; omega) ?_)
        intro vqq wqq hownqq hgrqq hnilqq
        have hgqqq := grown_trans (grown_below (below_a1 wr _) _) hgrqq
        clear hgrqq hnilqq
        have hq : Hid (wqq.ownsRow w.heap.size 5 1 vqq ((L ++ [32]).length) ((L ++ [32]).map bytU) ∧ Below w.heap.size w wqq) := Lib.hid ⟨by rw [byt_add _ (32 : UInt8) _ rfl, List.length_append]; exact hownqq, hbw.grown hgqqq hwz (fun j hj => owns_ge8 hrl.out hj)⟩
        clear hownqq hgqqq
        have hbw2 := hq.out.2
        have hwz2 := hbw2.size
        have hrl2 : Hid (OByt wqq w.heap.size vqq (L ++ [32])) := Lib.hid hq.out.1
        have hl2 : (L ++ [32]).length ≤ 2001 := by simp; omega
        clear hrl hq
        generalize hM : L ++ [32] = M at hnx hrl2 hl2
        replace hM := Lib.hid hM
        go_wp2_with (at_builtin; refine wpList_append_own _ rfl _ _ 44 rfl w.heap.size 5 i0 _ 1 1 Tryd.underlying44 hi hz0 hz1 hz2 rfl (by decide) _ _ _ rfl (hrl2.out.alloc _) ⟨wqq.heap.size, 0, none⟩ 1 1 [.int .u8 ((s[k]'hlt).toNat : Int)] rfl rfl (news8 _ _ _) (byt_one _) (by unfold maxLen; omega) (by omega) (by simp; omega) ?_)
        intro vqr wqr hownqr hgrqr hnilqr
        have hgqqr := grown_trans (grown_below (below_a1 wqq _) _) hgrqr
        clear hgrqr hnilqr
        have hr : Hid (wqr.ownsRow w.heap.size 5 1 vqr ((M ++ [s[k]'hlt]).length) ((M ++ [s[k]'hlt]).map bytU) ∧ Below w.heap.size w wqr) := Lib.hid ⟨by rw [byt_add _ (s[k]'hlt) _ rfl, List.length_append]; exact hownqr, hbw2.grown hgqqr hwz2 (fun j hj => owns_ge8 hrl2.out hj)⟩
        clear hownqr hgqqr
        have hln2 : (M ++ [s[k]'hlt]).length ≤ 2000 := by rw [hnx.out]; omega
        replace hln2 := Lib.hid hln2
        clear hrl2
        go_wp2
        go_roundw
        case rel => exact ⟨k + 1, M ++ [s[k]'hlt], by omega, by go_num, hnx.out, hln2.out, hr.out.2, hr.out.1⟩
        case measure => simp [intOf]; omega
    · obtain rfl : k = s.size := by omega
      have hconv := byt_conv hrow
      obtain ⟨A5, c5', rfl⟩ := byt_form hrow
      clear hrow
      go_wp2
      go_ret
      exact ⟨by rw [spT, ← hL.out]; rfl, hbw⟩
theorem spread_text10_spec (s : ByteArray) (w : World) (hs : s.size ≤ 1048576) :
    Calls Tryd.prog 15 #[.string s] w fun e w' => e = .returned (.tuple #[.string (spR s).1, .int .i64 (spR s).2]) ∧ Below w.heap.size w w' := by
  generalize hr : spR s = r
  replace hr := Lib.hid hr.symm
  cases h1 : settB s with
  | false =>
    have hb : Hid (r = (ByteArray.empty, 2)) := Lib.hid (by rw [hr.out, spR, h1]; rfl)
    have hc := Lib.hid (fun W => text10 s h1 W (by unfold maxLen; omega))
    clear h1
    go_enter Tryd.func15, Tryd.ntmps15
    go_wp2_with fail
    refine (hc.out _).mono ?_
    rintro e w1 ⟨rfl, rfl⟩
    go_wp2
    go_ret2
    exact ⟨ret_s10 hb.out, Below.refl _ _⟩
  | true =>
    have hsz := settB_size h1
    have hc := Lib.hid (fun W => text10 s h1 W (by unfold maxLen; omega))
    have hsp := Lib.hid (fun W => spread10 s (by omega) W)
    have hres : Hid (r = if (100 : Int) < ((spT s).size : Int) then (ByteArray.empty, 5) else (spT s, 0)) := Lib.hid (by rw [hr.out, spR, h1]; rfl)
    clear h1 hr
    generalize spT s = T at *
    by_cases h2 : (100 : Int) < (T.size : Int)
    · have hb : Hid (r = (ByteArray.empty, 5)) := Lib.hid (by rw [hres.out, if_pos h2])
      clear hres
      go_enter Tryd.func15, Tryd.ntmps15
      go_wp2_with fail
      refine (hc.out _).mono ?_
      rintro e w1 ⟨rfl, rfl⟩
      go_wp2_with fail
      refine (hsp.out _).mono ?_
      rintro e w2 ⟨rfl, hb2⟩
      go_wp2
      go_ret2
      exact ⟨ret_s10 hb.out, hb2⟩
    · have hb : Hid (r = (T, 0)) := Lib.hid (by rw [hres.out, if_neg h2])
      clear hres
      go_enter Tryd.func15, Tryd.ntmps15
      go_wp2_with fail
      refine (hc.out _).mono ?_
      rintro e w1 ⟨rfl, rfl⟩
      go_wp2_with fail
      refine (hsp.out _).mono ?_
      rintro e w2 ⟨rfl, hb2⟩
      go_wp2
      go_ret2
      exact ⟨ret_s10 hb.out, hb2⟩
set_option maxRecDepth 100000 in
set_option maxHeartbeats 2400000 in
theorem join10_spec (s : ByteArray) (w : World) (hs : s.size ≤ 1048576) :
    Calls Tryd.prog 17 #[.string s] w fun e w' => e = .returned (.tuple #[.string (jnR s).1, .int .i64 (jnR s).2]) ∧ Below w.heap.size w w' := by
  generalize hr : jnR s = r
  replace hr := Lib.hid hr.symm
  cases h1 : settB s with
  | false =>
    have hb : Hid (r = (ByteArray.empty, 2)) := Lib.hid (by rw [hr.out, jnR, h1]; rfl)
    have hc := Lib.hid (fun W => text10 s h1 W (by unfold maxLen; omega))
    clear h1
    go_enter Tryd.func17, Tryd.ntmps17
    go_wp2_with fail
    refine (hc.out _).mono ?_
    rintro e w1 ⟨rfl, rfl⟩
    go_wp2
    go_ret2
    exact ⟨ret_s10 hb.out, Below.refl _ _⟩
  | true =>
    have hsz := settB_size h1
    have hc := Lib.hid (fun W => text10 s h1 W (by unfold maxLen; omega))
    have hres : Hid (r = if okI s s.size = true then (⟨(evI s s.size).toArray⟩, 0) else (ByteArray.empty, 8)) := Lib.hid (by rw [hr.out, jnR, h1]; rfl)
    obtain ⟨i0, hi, hz0, hz1, hz2⟩ := info_parts Tryd.infoByt
    clear h1 hr
    go_enter Tryd.func17, Tryd.ntmps17
    go_wp2_with fail
    refine (hc.out _).mono ?_
    rintro e w1 ⟨rfl, rfl⟩
    clear hc
    go_wp2
    go_loopw [4, 5] (fun v i wr => ∃ (k : Nat) (L : List UInt8), k ≤ s.size ∧ i = .int .i64 k ∧ L = evI s k ∧ okI s k = true ∧ L.length ≤ 100 ∧ Below w.heap.size w wr ∧ OByt wr w.heap.size v L) (fun _ i _ => s.size - (intOf i).toNat)
    case atStart => exact ⟨0, [], by omega, rfl, rfl, rfl, by simp, below_a1 _ _, byt_new w⟩
    case round =>
      rename World => wr
      obtain ⟨k, L, hk, rfl, hL, hok, hLn, hbw, hrow⟩ := hrel
      have hwz := hbw.size
      replace hL := Lib.hid hL
      replace hok := Lib.hid hok
      by_cases hlt : k < s.size
      · have hk1 : (k : Int) < (s.size : Int) := by omega
        have hbk := bAt_eq hlt
        have hrm := rem2 k
        have hlv := evI_len s (k + 1)
        by_cases hp : k % 2 = 0
        · rw [hp] at hrm
          have hnx : Hid (L ++ [s[k]'hlt] = evI s (k + 1)) := Lib.hid (by rw [evI, if_pos hp, hL.out, hbk])
          have hok2 : Hid (okI s (k + 1) = true) := Lib.hid (by rw [okI, hok.out, decide_eq_true hp]; rfl)
          have hrl := Lib.hid hrow
          have hln2 : Hid ((L ++ [s[k]'hlt]).length ≤ 100) := Lib.hid (by rw [hnx.out]; omega)
          replace hp := Lib.hid hp
          replace hbk := Lib.hid hbk
          clear hrow hlv
          go_wp2_with (at_builtin; refine wpList_append_own _ rfl _ _ 44 rfl w.heap.size 5 i0 _ 1 1 Tryd.underlying44 hi hz0 hz1 hz2 rfl (by decide) _ _ _ rfl (hrl.out.alloc _) ⟨wr.heap.size, 0, none⟩ 1 1 [.int .u8 ((s[k]'hlt).toNat : Int)] rfl rfl (news8 _ _ _) (byt_one _) (by unfold maxLen; omega) (by omega) (by simp; omega) ?_)
          intro vqq wqq hownqq hgrqq hnilqq
          have hgqqq := grown_trans (grown_below (below_a1 wr _) _) hgrqq
          clear hgrqq hnilqq
          have hq : Hid (wqq.ownsRow w.heap.size 5 1 vqq ((L ++ [s[k]'hlt]).length) ((L ++ [s[k]'hlt]).map bytU) ∧ Below w.heap.size w wqq) := Lib.hid ⟨by rw [byt_add _ (s[k]'hlt) _ rfl, List.length_append]; exact hownqq, hbw.grown hgqqq hwz (fun j hj => owns_ge8 hrl.out hj)⟩
          clear hownqq hgqqq
          clear hrl
          go_wp2
          go_roundw
          case rel => exact ⟨k + 1, L ++ [s[k]'hlt], by omega, by go_num, hnx.out, hok2.out, hln2.out, hq.out.2, hq.out.1⟩
          case measure => simp [intOf]; omega
        · have hp1 : k % 2 = 1 := by omega
          rw [hp1] at hrm
          have hnx : Hid (L = evI s (k + 1)) := Lib.hid (by rw [evI, if_neg hp, hL.out])
          by_cases h32 : (s[k]'hlt).toNat = 32
          · have hok2 : Hid (okI s (k + 1) = true) := Lib.hid (by rw [okI, hok.out, hbk, decide_eq_true h32]; simp)
            have b1 : (((s[k]'hlt).toNat : Int) == 32) = true := beq_iff_eq.2 (by omega)
            have b2 : (((s[k]'hlt).toNat : Int) != 32) = false := by rw [bne, b1]; rfl
            have b3 : ((s[k]'hlt).toNat == 32) = true := beq_iff_eq.2 h32
            replace hp := Lib.hid hp
            replace hp1 := Lib.hid hp1
            replace h32 := Lib.hid h32
            replace hbk := Lib.hid hbk
            go_wp2
            go_roundw
            case rel => exact ⟨k + 1, L, by omega, by go_num, hnx.out, hok2.out, hLn, hbw, hrow⟩
            case measure => simp [intOf]; omega
          · have hbad : Hid (r = (ByteArray.empty, 8)) := Lib.hid (by
              have : okI s (k + 1) = false := by rw [okI, hok.out, hbk, decide_eq_false h32, decide_eq_false hp]; rfl
              rw [hres.out, okI_no (k := k + 1) (by omega) this]; rfl)
            have b1 : (((s[k]'hlt).toNat : Int) == 32) = false := beq_eq_false_iff_ne.2 (by omega)
            have b2 : (((s[k]'hlt).toNat : Int) != 32) = true := by rw [bne, b1]; rfl
            have b3 : ((s[k]'hlt).toNat == 32) = false := beq_eq_false_iff_ne.2 h32
            replace hp := Lib.hid hp
            replace hp1 := Lib.hid hp1
            replace h32 := Lib.hid h32
            replace hbk := Lib.hid hbk
            clear hrow
            go_wp2
            go_ret2
            exact ⟨ret_s10 hbad.out, hbw⟩
      · obtain rfl : k = s.size := by omega
        have hgood : Hid (r = (⟨L.toArray⟩, 0)) := Lib.hid (by rw [hres.out, hok.out, hL.out]; rfl)
        have hconv := byt_conv hrow
        obtain ⟨A5, c5', rfl⟩ := byt_form hrow
        clear hrow
        go_wp2
        go_ret2
        exact ⟨ret_s10 hgood.out, hbw⟩
set_option maxRecDepth 100000 in
set_option maxHeartbeats 2400000 in
theorem under10_spec (s : ByteArray) (w : World) (hs : s.size ≤ 1048576) :
    Calls Tryd.prog 19 #[.string s] w fun e w' => e = .returned (.tuple #[.string (unR s).1, .int .i64 (unR s).2]) ∧ Below w.heap.size w w' := by
  generalize hr : unR s = r
  replace hr := Lib.hid hr.symm
  cases h1 : settB s with
  | false =>
    have hb : Hid (r = (ByteArray.empty, 2)) := Lib.hid (by rw [hr.out, unR, h1]; rfl)
    have hc := Lib.hid (fun W => text10 s h1 W (by unfold maxLen; omega))
    clear h1
    go_enter Tryd.func19, Tryd.ntmps19
    go_wp2_with fail
    refine (hc.out _).mono ?_
    rintro e w1 ⟨rfl, rfl⟩
    go_wp2
    go_ret2
    exact ⟨ret_s10 hb.out, Below.refl _ _⟩
  | true =>
    have hsz := settB_size h1
    have hc := Lib.hid (fun W => text10 s h1 W (by unfold maxLen; omega))
    have hres : Hid (r = (unT s, 0)) := Lib.hid (by rw [hr.out, unR, h1]; rfl)
    have hdl : s.data.toList.length = s.size := rfl
    obtain ⟨i0, hi, hz0, hz1, hz2⟩ := info_parts Tryd.infoByt
    replace hdl := Lib.hid hdl
    clear h1 hr
    go_enter Tryd.func19, Tryd.ntmps19
    go_wp2_with fail
    refine (hc.out _).mono ?_
    rintro e w1 ⟨rfl, rfl⟩
    clear hc
    go_wp2
    go_loopw [4, 5] (fun v i wr => ∃ (k : Nat) (L : List UInt8), k ≤ s.size ∧ i = .int .i64 k ∧ L = (s.data.toList.take k).map unC ∧ L.length = k ∧ Below w.heap.size w wr ∧ OByt wr w.heap.size v L) (fun _ i _ => s.size - (intOf i).toNat)
    case atStart => exact ⟨0, [], by omega, rfl, by simp, rfl, below_a1 _ _, byt_new w⟩
    case round =>
      rename World => wr
      obtain ⟨k, L, hk, rfl, hL, hLk, hbw, hrow⟩ := hrel
      have hwz := hbw.size
      replace hL := Lib.hid hL
      have hLn : L.length ≤ 100 := by omega
      replace hLk := Lib.hid hLk
      by_cases hlt : k < s.size
      · have hk1 : (k : Int) < (s.size : Int) := by omega
        have htk : (s.data.toList.take (k + 1)).map unC = (s.data.toList.take k).map unC ++ [unC (s[k]'hlt)] := by rw [take8 (byte_of hlt), List.map_append]; rfl
        by_cases h32 : (s[k]'hlt).toNat = 32
        · have hnx : Hid (L ++ [32] = (s.data.toList.take (k + 1)).map unC) := Lib.hid (by rw [htk, hL.out, unC, if_pos h32])
          have b1 : (((s[k]'hlt).toNat : Int) == 32) = true := beq_iff_eq.2 (by omega)
          have b3 : ((s[k]'hlt).toNat == 32) = true := beq_iff_eq.2 h32
          have hrl := Lib.hid hrow
          replace h32 := Lib.hid h32
          replace htk := Lib.hid htk
          clear hrow
          go_wp2_with (at_builtin; refine wpList_append_own _ rfl _ _ 44 rfl w.heap.size 5 i0 _ 1 1 Tryd.underlying44 hi hz0 hz1 hz2 rfl (by decide) _ _ _ rfl (hrl.out.alloc _) ⟨wr.heap.size, 0, none⟩ 1 1 [.int .u8 32] rfl rfl (news8 _ _ _) (byt_one _) (by unfold maxLen; omega) (by omega) (by simp; omega) ?_)
          intro vqq wqq hownqq hgrqq hnilqq
          have hgqqq := grown_trans (grown_below (below_a1 wr _) _) hgrqq
          clear hgrqq hnilqq
          have hq : Hid (wqq.ownsRow w.heap.size 5 1 vqq ((L ++ [32]).length) ((L ++ [32]).map bytU) ∧ Below w.heap.size w wqq) := Lib.hid ⟨by rw [byt_add _ (32 : UInt8) _ rfl, List.length_append]; exact hownqq, hbw.grown hgqqq hwz (fun j hj => owns_ge8 hrl.out hj)⟩
          clear hownqq hgqqq
          clear hrl
          go_wp2
          go_roundw
          case rel => exact ⟨k + 1, L ++ [32], by omega, by go_num, hnx.out, by simp [hLk.out], hq.out.2, hq.out.1⟩
          case measure => simp [intOf]; omega
        · have hnx : Hid (L ++ [95] = (s.data.toList.take (k + 1)).map unC) := Lib.hid (by rw [htk, hL.out, unC, if_neg h32])
          have b1 : (((s[k]'hlt).toNat : Int) == 32) = false := beq_eq_false_iff_ne.2 (by omega)
          have b3 : ((s[k]'hlt).toNat == 32) = false := beq_eq_false_iff_ne.2 h32
          have hrl := Lib.hid hrow
          replace h32 := Lib.hid h32
          replace htk := Lib.hid htk
          clear hrow
          go_wp2_with (at_builtin; refine wpList_append_own _ rfl _ _ 44 rfl w.heap.size 5 i0 _ 1 1 Tryd.underlying44 hi hz0 hz1 hz2 rfl (by decide) _ _ _ rfl (hrl.out.alloc _) ⟨wr.heap.size, 0, none⟩ 1 1 [.int .u8 95] rfl rfl (news8 _ _ _) (byt_one _) (by unfold maxLen; omega) (by omega) (by simp; omega) ?_)
          intro vqq wqq hownqq hgrqq hnilqq
          have hgqqq := grown_trans (grown_below (below_a1 wr _) _) hgrqq
          clear hgrqq hnilqq
          have hq : Hid (wqq.ownsRow w.heap.size 5 1 vqq ((L ++ [95]).length) ((L ++ [95]).map bytU) ∧ Below w.heap.size w wqq) := Lib.hid ⟨by rw [byt_add _ (95 : UInt8) _ rfl, List.length_append]; exact hownqq, hbw.grown hgqqq hwz (fun j hj => owns_ge8 hrl.out hj)⟩
          clear hownqq hgqqq
          clear hrl
          go_wp2
          go_roundw
          case rel => exact ⟨k + 1, L ++ [95], by omega, by go_num, hnx.out, by simp [hLk.out], hq.out.2, hq.out.1⟩
          case measure => simp [intOf]; omega
      · obtain rfl : k = s.size := by omega
        have hgood : Hid (r = (⟨L.toArray⟩, 0)) := Lib.hid (by rw [hres.out, hL.out, List.take_of_length_le (by rw [hdl.out]; omega)]; rfl)
        have hconv := byt_conv hrow
        obtain ⟨A5, c5', rfl⟩ := byt_form hrow
        clear hrow
        go_wp2
        go_ret2
        exact ⟨ret_s10 hgood.out, hbw⟩
theorem letB_size {s : ByteArray} (h : letB s = true) : s.size = 1 := by simp only [letB, Bool.and_eq_true, decide_eq_true_eq] at h; exact h.1
end Go.Proofs.YtalmpiffjghhkaaDoor
