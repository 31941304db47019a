/- Lines of words: the program's first breaks, the fewest lines and the least width. -/
import Derived.Test.YtcaojaaooadeaaaLn4
namespace Go.Proofs.Ytcaojaaooadeaaa
open Go.RowKit Go.ChangeShapes Go.WideShapes Go.Deep
set_option linter.unusedVariables false
set_option linter.unusedSimpArgs false

set_option maxRecDepth 100000 in
set_option maxHeartbeats 3200000 in
theorem first9_impl (A : Option Addr) (n c : Nat) (ws : List ByteArray) (W : Nat) (hW : W ≤ 80) (hn : n ≤ 1000) (hc : n ≤ c) (hs : ∀ x ∈ ws, x.size ≤ W) (w : World) (h : Strs w A n ws) :
    Calls Try.prog 42 #[.slice A n c, .int .i64 (W : Int)] w fun e w' => ∃ v, e = .returned v ∧ w'.ownsRow w.heap.size 2 1 v (firstL W ws).length ((firstL W ws).flatMap intC) ∧ Below w.heap.size w w' := by
  have hl := Lib.hid h.1
  have hs0 := Lib.hid hs
  have hfa := Lib.hid (fit9_impl A n c ws W (by omega) w h hn hc (fun x hx => by have := hs x hx; omega))
  have hfle := fit_le W ws
  rw [hl.out] at hfle
  have hft := Lib.hid (first_tail (W := W) (ws := ws))
  rw [hl.out] at hft
  obtain ⟨F, hF⟩ : ∃ F, fitN W ws = F := ⟨_, rfl⟩
  rw [hF] at hfle hfa hft
  obtain ⟨i0, hi, hz0, hz1, hz2⟩ := info_parts Try.infoI64
  clear hs
  have hF1 : Hid (0 < n → 1 ≤ F) := Lib.hid (fun h0 => by rw [← hF]; exact fit_one (by rw [hl.out]; exact h0) hs0.out)
  clear hF
  go_enter Try.func42, Try.ntmps42
  go_wp2_with fail
  refine hfa.out.mono ?_
  rintro e w1 ⟨rfl, hb1⟩
  have hS := h.below hb1
  clear h hfa
  go_wp2
  go_loopw [5, 6] (fun v a wr => ∃ (k q : Nat) (out : List Int), a = .int .i64 (k : Int) ∧ k ≤ n ∧ (0 < n → 1 ≤ k) ∧ n - k ≤ q ∧ out.length ≤ k ∧ (0 < k → out.length < k) ∧ firstL W ws = out ++ tailL W ws q k ∧ Below w1.heap.size w1 wr ∧ wr.ownsRow w1.heap.size 2 1 v out.length (out.flatMap intC)) (fun _ a _ => n - (intOf a).toNat)
  case atStart => exact ⟨F, n - 1, [], rfl, hfle, hF1.out, by have := hF1.out; omega, by simp, by simp, hft.out, Below.refl _ _, owns_nil8 _ _ _⟩
  case round =>
    rename World => wr
    obtain ⟨k, q, out, rfl, hk, hk1, hq, hol, hol2, hout, hbw, hrow⟩ := hrel
    have hwz := hbw.size
    replace hout := Lib.hid hout
    by_cases hlt : k < n
    · have hk10 := hk1 (by omega)
      have hol3 := hol2 (by omega)
      have hnx : Hid (firstL W ws = (out ++ [(k : Int)]) ++ tailL W ws (q - 1) (k + fitN W (ws.drop k))) := Lib.hid (by rw [hout.out, tail_step (by rw [hl.out]; exact hlt) (by rw [hl.out]; exact hq)]; simp)
      have hfo : 1 ≤ fitN W (ws.drop k) := fit_one (by rw [List.length_drop, hl.out]; omega) (fun x hx => hs0.out x (List.mem_of_mem_drop hx))
      have hfl : fitN W (ws.drop k) ≤ n - k := by have := fit_le W (ws.drop k); rw [List.length_drop, hl.out] at this; exact this
      have hsn := Lib.hid (snoc8 out (k : Int))
      have hrl := Lib.hid hrow
      have hfit := Lib.hid (fun W' b off (hV : Strs W' (some ⟨b, off + k, none⟩) (n - k) (ws.drop k)) => fit9_impl (some ⟨b, off + k, none⟩) (n - k) (c - k) (ws.drop k) W (by omega) W' hV (by omega) (by omega) (fun x hx => by have := hs0.out x (List.mem_of_mem_drop hx); omega))
      have htk : Hid ((ws.drop k).take (n - k) = ws.drop k) := Lib.hid (List.take_of_length_le (by rw [List.length_drop, hl.out]; omega))
      have hkc : (k : Int) ≤ (c : Int) := by omega
      have hkn : (k : Int) ≤ (n : Int) := by omega
      obtain ⟨F2, hF2⟩ : ∃ F2, fitN W (ws.drop k) = F2 := ⟨_, rfl⟩
      rw [hF2] at hfo hfl hnx hfit
      have hw1 : IntKind.i64.wrap ((k : Int) + (F2 : Int)) = ((k + F2 : Nat) : Int) := by rw [IntWalk.i64_in _ (by omega)]; omega
      clear hrow hF2 hk1 hol2
      go_wp2_with (at_builtin; refine wpList_append_own _ rfl _ _ 27 rfl w1.heap.size 2 i0 _ 1 8 Try.underlying27 hi hz0 hz1 hz2 rfl (by decide) _ _ _ rfl (hrl.out.alloc _) ⟨wr.heap.size, 0, none⟩ 1 1 [.int .i64 (k : Int)] rfl rfl (news8 _ _ _) (one8 _) (by unfold maxLen; omega) (by omega) (by simp; omega) ?_)
      intro vqq wqq hownqq hgrqq hnilqq
      have hgqqq := grown_trans (grown_below (below_a1 wr _) _) hgrqq
      clear hgrqq hnilqq
      have hq : Hid (wqq.ownsRow w1.heap.size 2 1 vqq (out.length + 1) ((out ++ [(k : Int)]).flatMap intC) ∧ Below w1.heap.size w1 wqq) := Lib.hid ⟨by rw [hsn.out]; exact hownqq, hbw.grown hgqqq hwz (fun j hj => owns_ge8 hrl.out hj)⟩
      clear hownqq hgqqq
      clear hrl
      have hqb := hq.out.2
      have hqo := Lib.hid hq.out.1
      have hqz := hqb.size
      obtain ⟨b, off, rfl, hb, hV⟩ := view9 (hS.below hqb) (a := k) (e := n) hlt (Nat.le_refl _)
      rw [htk.out] at hV
      clear hq
      go_wp2_with fail
      refine (hfit.out _ b off hV).mono ?_
      rintro e w4 ⟨rfl, hb4⟩
      have hqb4 := hqb.trans (hb4.mono hqz)
      have hrow4 := Lib.hid (owns_keep8 hqo.out hb4)
      clear hV hqo
      go_wp2
      go_roundw
      case rel => exact ⟨k + F2, q - 1, out ++ [(k : Int)], by go_num, by omega, by omega, by omega, by simp; omega, by simp; omega, hnx.out, hqb4, by rw [List.length_append]; exact hrow4.out⟩
      case measure => simp [intOf]; omega
    · have hall : firstL W ws = out := by rw [hout.out, tail_end (by rw [hl.out]; omega), List.append_nil]
      replace hall := Lib.hid hall
      have hbe := hb1.trans (hbw.mono hb1.size)
      go_wp2
      go_ret
      refine ⟨_, rfl, ?_, hbe⟩
      rw [hall.out]
      exact ⟨hrow.1, hrow.2.elim .inl (fun ⟨g, cap, cur, h1, h2, h3⟩ => .inr ⟨g, cap, cur, h1, Nat.le_trans hb1.size h2, h3⟩)⟩
theorem fb_implC (A : Option Addr) (n c : Nat) (ws : List ByteArray) (wd : Int) (w : World) (h : Strs w A n ws) (hn : n ≤ 1048576) (hc : n ≤ c) (hg : ∀ x ∈ ws, x.size ≤ maxLen) :
    Calls Try.prog 17 #[.slice A n c, .int .i64 wd] w (IOut (fbR ws wd) w) := by
  generalize hr : fbR ws wd = r
  replace hr := Lib.hid hr.symm
  have hl := Lib.hid h.1
  cases h1 : okW ws wd with
  | false =>
    have hbad : Hid (r = ([], 1)) := Lib.hid (by rw [hr.out, fbR, h1]; rfl)
    have hc1 := Lib.hid (vt9_implV A n c ws wd h1 w h hn hg)
    clear h1 hr h hg
    go_enter Try.func17, Try.ntmps17
    go_wp2_with fail
    refine hc1.out.mono ?_
    rintro e w1 ⟨rfl, hb1⟩
    go_wp2
    go_ret2
    exact IOut.bad hbad.out hb1
  | true =>
    obtain ⟨n40, w1, w80, hws⟩ := okW_ok h1
    obtain ⟨W, rfl⟩ : ∃ W : Nat, wd = (W : Int) := ⟨wd.toNat, by omega⟩
    rw [hl.out] at n40
    have hgood : Hid (r = (firstL W ws, 0)) := Lib.hid (by rw [hr.out, fbR, h1, Int.toNat_natCast]; rfl)
    have hcode : Hid (r.2 = 0) := Lib.hid (by rw [hgood.out])
    have hc1 := Lib.hid (vt9_implV A n c ws W h1 w h hn hg)
    have hf := Lib.hid (fun W' hW' => first9_impl A n c ws W (by omega) (by omega) hc (fun x hx => by have := (hws x hx).2.1; omega) W' hW')
    have hlen := Lib.hid (first_len W ws)
    clear h1 hr hg hws
    go_enter Try.func17, Try.ntmps17
    go_wp2_with fail
    refine hc1.out.mono ?_
    rintro e w0 ⟨rfl, hb0⟩
    have hS := h.below hb0
    replace hb0 := Lib.hid hb0
    clear h
    go_wp2_with fail
    refine (hf.out _ hS).mono ?_
    rintro e w1 ⟨v, rfl, hrow, hb1⟩
    obtain ⟨A', c', rfl, hO⟩ := owns_i8 rfl hrow
    replace hO := Lib.hid hO
    clear hrow
    go_wp2
    go_ret2
    exact ⟨A', _, c', by rw [hcode.out]; rfl, by have := hlen.out; have := hl.out; omega, by rw [hgood.out]; exact hO.out.mono hb0.out.size, hb0.out.step hb1⟩
theorem fb9_impl (A : Option Addr) (n m : Nat) (ws : List ByteArray) (wd : Int) (w : World) (h : Strs w A n ws) (hn : n ≤ 1048576) (hg : ∀ x ∈ ws, strGood x) (hw : (Lit.int .i64 wd).wf = true) :
    Calls Try.prog 17 #[.slice A n n, .int .i64 wd] w (IOut (fbR ws wd) w) := fb_implC A n n ws wd w h hn (Nat.le_refl _) hg
theorem fl_implC (A : Option Addr) (n c : Nat) (ws : List ByteArray) (wd : Int) (w : World) (h : Strs w A n ws) (hn : n ≤ 1048576) (hc : n ≤ c) (hg : ∀ x ∈ ws, x.size ≤ maxLen) {a b : Int} (hv : flR ws wd = (a, b)) :
    Calls Try.prog 28 #[.slice A n c, .int .i64 wd] w fun e w' => e = .returned (.tuple #[.int .i64 a, .int .i64 b]) ∧ Below w.heap.size w w' := by
  replace hv := Lib.hid hv
  have hl := Lib.hid h.1
  cases h1 : okW ws wd with
  | false =>
    obtain ⟨rfl, rfl⟩ : a = 0 ∧ b = 1 := by have := hv.out; rw [flR, h1] at this; simpa [eq_comm] using this
    have hc1 := Lib.hid (vt9_implV A n c ws wd h1 w h hn hg)
    clear h1 hv h hg
    go_enter Try.func28, Try.ntmps28
    go_wp2_with fail
    refine hc1.out.mono ?_
    rintro e w1 ⟨rfl, hb1⟩
    go_wp2
    go_ret2
    exact ⟨rfl, hb1⟩
  | true =>
    obtain ⟨n40, w1, w80, hws⟩ := okW_ok h1
    obtain ⟨W, rfl⟩ : ∃ W : Nat, wd = (W : Int) := ⟨wd.toNat, by omega⟩
    rw [hl.out] at n40
    have hc1 := Lib.hid (vt9_implV A n c ws W h1 w h hn hg)
    by_cases h0 : n = 0
    · obtain ⟨rfl, rfl⟩ : a = 0 ∧ b = 0 := by have := hv.out; rw [flR, if_pos h1, if_pos (by rw [hl.out]; exact h0)] at this; simpa [eq_comm] using this
      subst h0
      clear h1 hv h hg
      go_enter Try.func28, Try.ntmps28
      go_wp2_with fail
      refine hc1.out.mono ?_
      rintro e w1 ⟨rfl, hb1⟩
      go_wp2
      go_ret2
      exact ⟨rfl, hb1⟩
    · have hlen := first_len W ws
      rw [hl.out] at hlen
      obtain ⟨q, hq⟩ : ∃ q, (firstL W ws).length = q := ⟨_, rfl⟩
      obtain ⟨rfl, rfl⟩ : a = (q : Int) + 1 ∧ b = 0 := by have := hv.out; rw [flR, if_pos h1, if_neg (by rw [hl.out]; exact h0), Int.toNat_natCast, hq] at this; simpa [eq_comm] using this
      have hf := Lib.hid (fun W' hW' => first9_impl A n c ws W (by omega) (by omega) hc (fun x hx => by have := (hws x hx).2.1; omega) W' hW')
      rw [hq] at hlen
      have g0 : ((n : Int) == 0) = false := beq_eq_false_iff_ne.2 (by omega)
      have g1 : (n == 0) = false := beq_eq_false_iff_ne.2 h0
      have hwr : IntKind.i64.wrap ((q : Int) + 1) = (q : Int) + 1 := IntWalk.i64_in _ (by omega)
      replace hq := Lib.hid hq
      replace h0 := Lib.hid h0
      clear h1 hv hg hws
      go_enter Try.func28, Try.ntmps28
      go_wp2_with fail
      refine hc1.out.mono ?_
      rintro e w0 ⟨rfl, hb0⟩
      have hS := h.below hb0
      replace hb0 := Lib.hid hb0
      clear h
      go_wp2_with fail
      refine (hf.out _ hS).mono ?_
      rintro e w1 ⟨v, rfl, hrow, hb1⟩
      rw [hq.out] at hrow
      obtain ⟨A', c', rfl⟩ := owns_form8 hrow
      clear hrow
      go_wp2
      go_ret2
      exact ⟨rfl, hb0.out.step hb1⟩
theorem fl9_impl (A : Option Addr) (n m : Nat) (ws : List ByteArray) (wd : Int) (w : World) (h : Strs w A n ws) (hn : n ≤ 1048576) (hg : ∀ x ∈ ws, strGood x) (hw : (Lit.int .i64 wd).wf = true) :
    Calls Try.prog 28 #[.slice A n n, .int .i64 wd] w fun e w' => e = .returned (.tuple #[.int .i64 (flR ws wd).1, .int .i64 (flR ws wd).2]) ∧ Below w.heap.size w w' := fl_implC A n n ws wd w h hn (Nat.le_refl _) hg rfl
set_option maxRecDepth 100000 in
set_option maxHeartbeats 3200000 in
theorem lw9_implC (A : Option Addr) (n c : Nat) (ws : List ByteArray) (m : Int) (w : World) (h : Strs w A n ws) (hn : n ≤ 1048576) (hc : n ≤ c) (hg : ∀ x ∈ ws, x.size ≤ maxLen) {a b : Int} (hv : lwR ws m = (a, b)) :
    Calls Try.prog 35 #[.slice A n c, .int .i64 m] w fun e w' => e = .returned (.tuple #[.int .i64 a, .int .i64 b]) ∧ Below w.heap.size w w' := by
  replace hv := Lib.hid hv
  have hl := Lib.hid h.1
  have hg0 := Lib.hid hg
  cases h1 : okW ws 80 with
  | false =>
    obtain ⟨rfl, rfl⟩ : a = 0 ∧ b = 1 := by have := hv.out; rw [lwR, h1] at this; simpa [eq_comm] using this
    have hc1 := Lib.hid (vt9_implV A n c ws 80 h1 w h hn hg)
    clear h1 hv h hg
    go_enter Try.func35, Try.ntmps35
    go_wp2_with fail
    refine hc1.out.mono ?_
    rintro e w1 ⟨rfl, hb1⟩
    go_wp2
    go_ret2
    exact ⟨rfl, hb1⟩
  | true =>
    have hc1 := Lib.hid (vt9_implV A n c ws 80 h1 w h hn hg)
    cases h2 : inR m 1 40 with
    | false =>
      obtain ⟨rfl, rfl⟩ : a = 0 ∧ b = 2 := by have := hv.out; rw [lwR, h1, h2] at this; simpa [eq_comm] using this
      have hc2 := Lib.hid (fun W => in8_impl h2 W)
      clear h1 h2 hv h hg
      go_enter Try.func35, Try.ntmps35
      go_wp2_with fail
      refine hc1.out.mono ?_
      rintro e w1 ⟨rfl, hb1⟩
      go_wp2_with fail
      refine (hc2.out _).mono ?_
      rintro e w2 ⟨rfl, rfl⟩
      go_wp2
      go_ret2
      exact ⟨rfl, hb1⟩
    | true =>
      have hc2 := Lib.hid (fun W => in8_impl h2 W)
      have hm1 := (inR_iff.1 h2).1
      have hv2 : Hid (leastW ws m 80 1 = (a, b)) := Lib.hid (by have := hv.out; rw [lwR, if_pos h1, if_pos h2] at this; exact this)
      clear h1 h2 hv hg
      go_enter Try.func35, Try.ntmps35
      go_wp2_with fail
      refine hc1.out.mono ?_
      rintro e w1 ⟨rfl, hb1⟩
      have hS1 := h.below hb1
      go_wp2_with fail
      refine (hc2.out _).mono ?_
      rintro e w2 ⟨rfl, rfl⟩
      clear hc1 hc2 h
      go_wp2
      go_loopw [6, 7, 8] (fun i _ _ wr => ∃ k : Nat, 1 ≤ k ∧ k ≤ 81 ∧ i = .int .i64 (k : Int) ∧ Below w1.heap.size w1 wr ∧ leastW ws m (81 - k) k = (a, b)) (fun i _ _ _ => 81 - (intOf i).toNat)
      case atStart => exact ⟨1, by omega, by omega, rfl, Below.refl _ _, hv2.out⟩
      case round =>
        rename World => wr
        obtain ⟨k, hk1, hk, rfl, hbw, he⟩ := hrel
        replace he := Lib.hid he
        have hS := hS1.below hbw
        have hwz := hbw.size
        by_cases hlt : k ≤ 80
        · obtain ⟨f, hf, hf2⟩ : ∃ f, 81 - k = f + 1 ∧ 81 - (k + 1) = f := ⟨80 - k, by omega, by omega⟩
          rw [hf] at he
          have gk : ((k : Int) ≤ 80) := by omega
          obtain ⟨p1, p2, hp⟩ : ∃ p1 p2, flR ws (k : Int) = (p1, p2) := ⟨_, _, rfl⟩
          have hen := enough_impl (ws := ws) (wd := k) hm1
          rw [hp] at hen
          have hj := Lib.hid (fl_implC A n c ws k wr hS hn hc hg0.out hp)
          replace hp := Lib.hid hp
          replace hf := Lib.hid hf
          replace hf2 := Lib.hid hf2
          by_cases h0 : p2 = 0
          · by_cases hq : p1 ≤ m
            · have hen2 : enoughB ws m k = true := by rw [hen, decide_eq_true h0, decide_eq_true hq]; rfl
              obtain ⟨rfl, rfl⟩ : a = (k : Int) ∧ b = 0 := by have := he.out; rw [least_yes hen2] at this; simpa [eq_comm] using this
              have gm : decide (p1 ≤ m) = true := decide_eq_true hq
              subst h0
              clear hen hen2
              go_wp2_with fail
              refine hj.out.mono ?_
              rintro e w4 ⟨rfl, hb4⟩
              have hbw4 := hb1.trans ((hbw.trans (hb4.mono hwz)).mono hb1.size)
              go_wp2
              go_ret2
              exact ⟨rfl, hbw4⟩
            · have hen2 : enoughB ws m k = false := by rw [hen, decide_eq_false hq]; simp
              have hnx : Hid (leastW ws m (81 - (k + 1)) (k + 1) = (a, b)) := Lib.hid (by rw [hf2.out, ← least_go hen2]; exact he.out)
              have gm : decide (p1 ≤ m) = false := decide_eq_false hq
              subst h0
              clear hen hen2
              go_wp2_with fail
              refine hj.out.mono ?_
              rintro e w4 ⟨rfl, hb4⟩
              have hbw4 := hbw.trans (hb4.mono hwz)
              go_wp2
              go_roundw
              case rel => exact ⟨k + 1, by omega, by omega, by go_num, hbw4, hnx.out⟩
              case measure => simp [intOf]; omega
          · have hen2 : enoughB ws m k = false := by rw [hen, decide_eq_false h0]; simp
            have hnx : Hid (leastW ws m (81 - (k + 1)) (k + 1) = (a, b)) := Lib.hid (by rw [hf2.out, ← least_go hen2]; exact he.out)
            have g0 : (p2 == 0) = false := beq_eq_false_iff_ne.2 h0
            replace h0 := Lib.hid h0
            clear hen hen2
            go_wp2_with fail
            refine hj.out.mono ?_
            rintro e w4 ⟨rfl, hb4⟩
            have hbw4 := hbw.trans (hb4.mono hwz)
            go_wp2
            go_roundw
            case rel => exact ⟨k + 1, by omega, by omega, by go_num, hbw4, hnx.out⟩
            case measure => simp [intOf]; omega
        · obtain rfl : k = 81 := by omega
          obtain ⟨rfl, rfl⟩ : a = 0 ∧ b = 5 := by have := he.out; simpa [leastW, eq_comm] using this
          have hbw4 := hb1.trans (hbw.mono hb1.size)
          go_wp2
          go_ret2
          exact ⟨rfl, hbw4⟩
theorem lw9_impl (A : Option Addr) (n m : Nat) (ws : List ByteArray) (k : Int) (w : World) (h : Strs w A n ws) (hn : n ≤ 1048576) (hg : ∀ x ∈ ws, strGood x) (hw : (Lit.int .i64 k).wf = true) :
    Calls Try.prog 35 #[.slice A n n, .int .i64 k] w fun e w' => e = .returned (.tuple #[.int .i64 (lwR ws k).1, .int .i64 (lwR ws k).2]) ∧ Below w.heap.size w w' := lw9_implC A n n ws k w h hn (Nat.le_refl _) hg rfl
end Go.Proofs.Ytcaojaaooadeaaa
