/- Boards: the program's strokes of a text. -/
import Derived.Test.YtmnafnjhioeicaaFin9
namespace Go.Proofs.Ytmnafnjhioeicaa
open Go.RowKit Go.ChangeMaps Go.MapKept Go.ChangeShapes Go.WideShapes Go.Deep
set_option linter.unusedVariables false
set_option linter.unusedSimpArgs false

def stkL (s t : ByteArray) (k : Nat) : List Nat := (List.range k).map (stk s t)
theorem stkL_next (s t : ByteArray) (k : Nat) : stkL s t (k + 1) = stkL s t k ++ [stk s t k] := by simp [stkL, List.range_succ]
theorem stkL_len (s t : ByteArray) (k : Nat) : (stkL s t k).length = k := by simp [stkL]
theorem stkL_at (s t : ByteArray) {k i : Nat} (h : i < k) : (stkL s t k)[i]? = some (stk s t i) := by simp [stkL, h]
theorem finCode_lay {ps : List PlaceD} {s t : ByteArray} (h : layCode ps s ≠ 0) : finCode ps s t = layCode ps s := by
  unfold finCode layCode at *
  split
  · rename_i h1
    rw [if_pos h1] at h
    split at h
    · exact absurd rfl h
    · rename_i h2
      have h3 : layB ps.length s = false := by simpa using h2
      simp [h3]
  · rfl
theorem layCode_ok {ps : List PlaceD} {s : ByteArray} (h : layCode ps s = 0) : boardOk ps = true ∧ layB ps.length s = true := by
  unfold layCode at h
  split at h
  · rename_i h1
    split at h
    · rename_i h2
      exact ⟨h1, h2⟩
    · cases h
  · cases h
theorem finCode_of {ps : List PlaceD} {s t : ByteArray} (h : layCode ps s = 0) : finCode ps s t = if (textB s t && decide (t.size ≤ 400)) = true then 0 else 2 := by
  obtain ⟨h1, h2⟩ := layCode_ok h
  rw [finCode, if_pos h1, h2, Bool.true_and]

def StOut (ps : List PlaceD) (s t : ByteArray) (w : World) (e : Ending) (w' : World) : Prop :=
  ∃ A n c, e = .returned (.tuple #[.slice A n c, .int .i64 (finCode ps s t)]) ∧ (finCode ps s t = 0 → n = t.size ∧ ORow 61 4 (keyC ps) w' w.heap.size A n (stkL s t n)) ∧ Below w.heap.size w w'
theorem StOut.bad {ps : List PlaceD} {s t : ByteArray} {w w' : World} {code : Int} (hr : finCode ps s t = code) (h0 : code ≠ 0) (hb : Below w.heap.size w w') : StOut ps s t w (.returned (.tuple #[.slice none 0 0, .int .i64 code])) w' := by
  subst hr
  exact ⟨none, 0, 0, rfl, fun h => absurd h h0, hb⟩

set_option maxRecDepth 100000 in
set_option maxHeartbeats 3200000 in
theorem st_impl (A : Option Addr) (n c : Nat) (ps : List PlaceD) (s t : ByteArray) (w : World) (h : Places w A n ps) (hn : n ≤ 1048576) (hs : s.size ≤ 1048576) (ht : t.size ≤ 1048576) :
    Calls Try.prog 51 #[.slice A n c, .string s, .string t] w (StOut ps s t w) := by
  have hq := Lib.hid (kl_impl A n c ps s w h hn hs)
  obtain ⟨i0, hi, hz0, hz1, hz2⟩ := info_parts Try.infoBKey
  go_enter Try.func51, Try.ntmps51
  go_wp2_with fail
  refine hq.out.mono ?_
  rintro e w1 (⟨hc, M, rfl, hwM, hM1, hb1⟩ | ⟨hc, rfl, hb1⟩)
  · have hfc := Lib.hid (finCode_of (t := t) hc)
    clear hc h hq
    by_cases h4 : t.size ≤ 400
    · have g4 : decide ((400 : Int) < (t.size : Int)) = false := decide_eq_false (by omega)
      have hf2 : Hid (finCode ps s t = if textB s t = true then 0 else 2) := Lib.hid (by rw [hfc.out, decide_eq_true h4, Bool.and_true])
      have hMl := hM1.lt
      replace hb1 := Lib.hid hb1
      replace hwM := Lib.hid hwM
      clear hfc
      go_wp2
      go_loopw [10, 28] (fun v i wr => ∃ k : Nat, k ≤ t.size ∧ i = .int .i64 k ∧ Below w1.heap.size w1 wr ∧ wr.ownsRow w1.heap.size 61 4 v k ((stkL s t k).flatMap (keyC ps)) ∧ textB s t = (t.data.toList.drop k).all (hasL s)) (fun _ i _ => t.size - (intOf i).toNat)
      case atStart => exact ⟨0, by omega, rfl, Below.refl _ _, ⟨rfl, .inl ⟨rfl, rfl⟩⟩, rfl⟩
      case round =>
        obtain ⟨k, hk, rfl, hbw, hrow, he⟩ := hrel
        replace he := Lib.hid he
        have hwz := hbw.size
        by_cases hlt : k < t.size
        · have hst := Lib.hid (all_drop (p := hasL s) (byte_of hlt))
          have hM := hM1.below hbw hMl
          have hval0 := letL_val (ps := ps) (s := s) (t[k]'hlt)
          have hk0 : (0 : Int) ≤ (k : Int) := Int.natCast_nonneg _
          have hk1 : (k : Int) < (t.size : Int) := by omega
          cases hh : hasL s (t[k]'hlt) with
          | false =>
            have hr : Hid (finCode ps s t = 2) := Lib.hid (by rw [hf2.out, he.out, hst.out, hh]; rfl)
            rw [hh, if_neg (by decide)] at hval0
            have hval : Hid ((valOf (t[k]'hlt) (letL ps s.data.toList s.size)).getD (.agg #[.int .i64 0, .int .i64 0, .int .i64 0, .int .i64 0]) = .agg #[.int .i64 0, .int .i64 0, .int .i64 0, .int .i64 0]) := Lib.hid (by rw [hval0]; rfl)
            have hok : Hid ((valOf (t[k]'hlt) (letL ps s.data.toList s.size)).isSome = false) := Lib.hid (by rw [hval0]; rfl)
            clear hval0 hh hst hrow
            replace hM := hM
            go_wp2_with (at_lookup; refine wpList_look_is rfl _ _ _ 5 61 rfl byteKey7 Try.underlying77 (zero_bkey _) rfl hM (t[k]'hlt) rfl hval.out hok.out ?_)
            go_wp2
            go_ret2
            exact StOut.bad hr.out (by decide) ((hb1.out.step hbw).step (below_a1 _ _))
          | true =>
            have hnext : Hid (textB s t = (t.data.toList.drop (k + 1)).all (hasL s)) := Lib.hid (by rw [he.out, hst.out, hh]; rfl)
            have hsk : stk s t k = ixL s (t[k]'hlt) := by rw [stk, getD_of' (byte_of hlt)]
            rw [hh, if_pos rfl, ← hsk] at hval0
            have hnx := Lib.hid (stkL_next s t k)
            have hks := Lib.hid (keys_snoc ps (stkL s t k) (stk s t k))
            unfold keyV at hval0
            have hval : Hid ((valOf (t[k]'hlt) (letL ps s.data.toList s.size)).getD (.agg #[.int .i64 0, .int .i64 0, .int .i64 0, .int .i64 0]) = .agg #[.int .i64 (plc ps (stk s t k)).finger, .int .i64 (plc ps (stk s t k)).row, .int .i64 (plc ps (stk s t k)).effort, .int .i64 (stk s t k : Int)]) := Lib.hid (by rw [hval0]; rfl)
            have hok : Hid ((valOf (t[k]'hlt) (letL ps s.data.toList s.size)).isSome = true) := Lib.hid (by rw [hval0]; rfl)
            have hrl := Lib.hid hrow
            obtain ⟨v0, c0', rfl⟩ := owns_form2 hrow
            clear hval0 hh hst hrow hsk
            generalize (plc ps (stk s t k)).finger = f at *
            generalize (plc ps (stk s t k)).row = r at *
            generalize (plc ps (stk s t k)).effort = e at *
            generalize stk s t k = q at *
            go_wp2_with (first | (at_lookup; refine wpList_look_is rfl _ _ _ 5 61 rfl byteKey7 Try.underlying77 (zero_bkey _) rfl hM (t[k]'hlt) rfl hval.out hok.out ?_) | (at_builtin; refine wpList_append_own _ rfl _ _ 58 rfl w1.heap.size 61 i0 _ 4 32 Try.underlying58 hi hz0 hz1 hz2 rfl (by decide) _ _ _ rfl ((hrl.out.alloc _).alloc _) ⟨wr.heap.size + 1, 0, none⟩ 1 1 [.int .i64 f, .int .i64 r, .int .i64 e, .int .i64 (q : Int)] rfl rfl ?cn (one4 _ _ _ _) (by unfold maxLen; omega) (by omega) (by simp; omega) ?_))
            case cn => have := news4 (wr.alloc (.cells #[.int .i64 f, .int .i64 r, .int .i64 e, .int .i64 (q : Int)] 61)) (.int .i64 f) (.int .i64 r) (.int .i64 e) (.int .i64 (q : Int)) 61; simpa using this
            intro vq0 wq0 hownq0 hgrq0 hnilq0
            have hgqq0 := grown_trans (grown_below (below_a2 wr _ _) _) hgrq0
            clear hgrq0 hnilq0
            have hrel4 : Hid (Below w1.heap.size w1 wq0 ∧ wq0.ownsRow w1.heap.size 61 4 vq0 (k + 1) ((stkL s t (k + 1)).flatMap (keyC ps))) := Lib.hid ⟨hbw.grown hgqq0 hwz (fun j hj => owns_ge3 hrl.out hj), by rw [hnx.out, hks.out]; exact hownq0⟩
            clear hownq0 hgqq0 hrl
            go_wp2
            go_roundw
            case rel => exact ⟨k + 1, by omega, by go_num, hrel4.out.1, hrel4.out.2, hnext.out⟩
            case measure => simp [intOf]; omega
        · obtain rfl : k = t.size := by omega
          have hr : Hid (finCode ps s t = 0) := Lib.hid (by rw [hf2.out, he.out, all_end (show t.data.toList.length ≤ t.size from Nat.le_refl _)]; rfl)
          obtain ⟨A', c', rfl, hO⟩ := owns_bk (stkL_len _ _ _) hrow
          replace hO := Lib.hid (hO.mono hb1.out.size)
          clear hrow
          go_wp2
          go_ret2
          exact ⟨A', t.size, c', by rw [hr.out]; rfl, fun _ => ⟨rfl, hO.out⟩, hb1.out.step hbw⟩
    · have g4 : decide ((400 : Int) < (t.size : Int)) = true := decide_eq_true (by omega)
      have hr : Hid (finCode ps s t = 2) := Lib.hid (by rw [hfc.out, decide_eq_false h4, Bool.and_false]; rfl)
      clear hfc h4 hM1
      go_wp2
      go_ret2
      exact StOut.bad hr.out (by decide) hb1
  · have hr := Lib.hid (finCode_lay (t := t) hc)
    generalize layCode ps s = code at *
    have g0 : (code == 0) = false := beq_eq_false_iff_ne.2 hc
    have g1 : (code != 0) = true := by simp [hc]
    replace hc := Lib.hid hc
    clear hq h
    go_wp2
    go_ret2
    exact StOut.bad hr.out hc.out hb1
end Go.Proofs.Ytmnafnjhioeicaa
