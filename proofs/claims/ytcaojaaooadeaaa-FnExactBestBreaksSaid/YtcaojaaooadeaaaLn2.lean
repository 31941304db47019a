/- Lines of words: the model's first breaks. -/
import Derived.Test.YtcaojaaooadeaaaLn1
namespace Go.Proofs.Ytcaojaaooadeaaa
open Go.RowKit Go.ChangeShapes Go.WideShapes Go.Deep
set_option linter.unusedVariables false
set_option linter.unusedSimpArgs false

set_option maxRecDepth 100000 in
set_option maxHeartbeats 3200000 in
theorem first9_spec (A : Option Addr) (n c : Nat) (ws : List ByteArray) (W : Nat) (hW : W ≤ 80) (hn : n ≤ 1000) (hc : n ≤ c) (hs : ∀ x ∈ ws, x.size ≤ W) (w : World) (h : Strs w A n ws) :
    Calls Try.prog 41 #[.slice A n c, .int .i64 (W : Int)] w fun e w' => ∃ v, e = .returned v ∧ w'.ownsRow w.heap.size 2 1 v (firstL W ws).length ((firstL W ws).flatMap intC) ∧ Below w.heap.size w w' := by
  have hl := Lib.hid h.1
  have hs0 := Lib.hid hs
  obtain ⟨i0, hi, hz0, hz1, hz2⟩ := info_parts Try.infoI64
  clear hs
  go_enter Try.func41, Try.ntmps41
  go_wp2
  go_loopw [5, 6, 7] (fun v a i wr => ∃ (k f q : Nat) (out : List Int), a = .int .i64 (f : Int) ∧ i = .int .i64 (k : Int) ∧ f < k ∧ k ≤ n + 1 ∧ (0 < n → k ≤ n ∧ k ≤ f + fitN W (ws.drop f)) ∧ n - f ≤ q ∧ out.length ≤ f ∧ firstL W ws = out ++ brkL W ws q f ∧ Below w.heap.size w wr ∧ wr.ownsRow w.heap.size 2 1 v out.length (out.flatMap intC)) (fun _ _ i _ => n + 1 - (intOf i).toNat)
  case atStart =>
    refine ⟨1, 0, n, [], rfl, rfl, by omega, by omega, fun h0 => ⟨by omega, ?_⟩, by omega, by simp, ?_, below_a1 _ _, owns_new8 w _⟩
    · have := fit_one (W := W) (ws := ws) (by rw [hl.out]; exact h0) hs0.out
      simpa using this
    · rw [firstL, hl.out]; rfl
  case round =>
    rename World => wr
    obtain ⟨k, f, q, out, rfl, rfl, hfk, hkn, hin, hq, hol, hout, hbw, hrow⟩ := hrel
    have hwz := hbw.size
    replace hout := Lib.hid hout
    by_cases hlt : k < n
    · obtain ⟨hk1, hkf⟩ := hin (by omega)
      obtain ⟨b, off, rfl, hb, hV⟩ := view9 (h.below hbw) (a := f) (e := k + 1) (by omega) (by omega)
      have hlong := Lib.hid (long9_spec _ (k + 1 - f) (c - f) ((ws.drop f).take (k + 1 - f)) (by omega) (fun x hx => by have := hs0.out x (List.mem_of_mem_drop (List.mem_of_mem_take hx)); omega) rfl wr hV)
      have hfi := fit_iff W (ws.drop f) (k + 1 - f) (by rw [List.length_drop, hl.out]; omega)
      have hfl : fitN W (ws.drop f) ≤ n - f := by have := fit_le W (ws.drop f); rw [List.length_drop, hl.out] at this; exact this
      generalize longN ((ws.drop f).take (k + 1 - f)) = LN at *
      have hw1 : IntKind.i64.wrap ((k : Int) + 1) = ((k + 1 : Nat) : Int) := by rw [IntWalk.i64_in _ (by omega)]; omega
      by_cases hfit : LN ≤ W
      · have hkf2 : k + 1 - f ≤ fitN W (ws.drop f) := hfi.1 hfit
        have g1 : decide ((W : Int) < (LN : Int)) = false := decide_eq_false (by omega)
        have g2 : decide (W < LN) = false := decide_eq_false (by omega)
        have hnx : Hid (k + 1 ≤ n ∧ k + 1 ≤ f + fitN W (ws.drop f)) := Lib.hid ⟨by omega, by omega⟩
        clear hfi hfit hkf hkf2 hfl hin
        go_wp2_with fail
        trace_state
        refine hlong.out.mono ?_
        rintro e w' ⟨rfl, rfl⟩
        go_wp2
        go_roundw
        case rel => exact ⟨k + 1, f, q, out, rfl, by go_num, by omega, by omega, fun _ => hnx.out, hq, hol, hout.out, hbw, hrow⟩
        case measure => simp [intOf]; omega
      · have hkf2 : ¬ k + 1 - f ≤ fitN W (ws.drop f) := fun hh => hfit (hfi.2 hh)
        have hke : f + fitN W (ws.drop f) = k := by omega
        have g1 : decide ((W : Int) < (LN : Int)) = true := decide_eq_true (by omega)
        have g2 : decide (W < LN) = true := decide_eq_true (by omega)
        obtain ⟨q', rfl⟩ : ∃ q', q = q' + 1 := ⟨q - 1, by omega⟩
        have hnx : Hid (firstL W ws = (out ++ [(k : Int)]) ++ brkL W ws q' k) := Lib.hid (by rw [hout.out, brk_tail, hke, tailL, if_pos (by rw [hl.out]; exact hlt)]; simp)
        have hfo : Hid (1 ≤ fitN W (ws.drop k)) := Lib.hid (fit_one (by rw [List.length_drop, hl.out]; omega) (fun x hx => hs0.out x (List.mem_of_mem_drop hx)))
        have hsn := Lib.hid (snoc8 out (k : Int))
        have hrl := Lib.hid hrow
        clear hfi hfit hkf hkf2 hfl hin hke hrow
        go_wp2_with fail
        refine hlong.out.mono ?_
        rintro e w' ⟨rfl, rfl⟩
        clear hlong hV
        go_wp2_with (at_builtin; refine wpList_append_own _ rfl _ _ 27 rfl w.heap.size 2 i0 _ 1 8 Try.underlying27 hi hz0 hz1 hz2 rfl (by decide) _ _ _ rfl (hrl.out.alloc _) ⟨wr.heap.size, 0, none⟩ 1 1 [.int .i64 (k : Int)] rfl rfl (news8 _ _ _) (one8 _) (by unfold maxLen; omega) (by omega) (by simp; omega) ?_)
        intro vqq wqq hownqq hgrqq hnilqq
        have hgqqq := grown_trans (grown_below (below_a1 wr _) _) hgrqq
        clear hgrqq hnilqq
        have hq : Hid (wqq.ownsRow w.heap.size 2 1 vqq (out.length + 1) ((out ++ [(k : Int)]).flatMap intC) ∧ Below w.heap.size w wqq) := Lib.hid ⟨by rw [hsn.out]; exact hownqq, hbw.grown hgqqq hwz (fun j hj => owns_ge8 hrl.out hj)⟩
        clear hownqq hgqqq
        clear hrl
        go_wp2
        go_roundw
        case rel => exact ⟨k + 1, k, q', out ++ [(k : Int)], rfl, by go_num, by omega, by omega, fun _ => ⟨by omega, by have := hfo.out; omega⟩, by omega, by simp; omega, hnx.out, hq.out.2, by rw [List.length_append]; exact hq.out.1⟩
        case measure => simp [intOf]; omega
    · have hall : firstL W ws = out := by
        rw [hout.out]
        match q, hq with
        | 0, _ => simp [brkL]
        | q' + 1, _ =>
          rw [brk_tail, tail_end, List.append_nil]
          by_cases h0 : n = 0
          · rw [hl.out]; omega
          · have := (hin (by omega)).2; rw [hl.out]; omega
      replace hall := Lib.hid hall
      go_wp2
      go_ret
      refine ⟨_, rfl, ?_, hbw⟩
      rw [hall.out]
      exact hrow
end Go.Proofs.Ytcaojaaooadeaaa
