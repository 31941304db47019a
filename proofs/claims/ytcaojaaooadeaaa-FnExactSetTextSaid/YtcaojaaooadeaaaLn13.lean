/- Justified texts: both sides. -/
import Derived.Test.YtcaojaaooadeaaaLn12
import Derived.Deep.AppendLies
namespace Go.Proofs.Ytcaojaaooadeaaa
open Go.RowKit Go.ChangeShapes Go.WideShapes Go.Deep
set_option linter.unusedVariables false
set_option linter.unusedSimpArgs false

theorem stR_bad {ws : List ByteArray} {wd : Int} {bs : List Int} {q : Int} (h : codeL ws wd bs = q) (h0 : q ≠ 0) : stR ws wd bs = ([], q) := by rw [stR, h, if_neg h0]
theorem stR_good {ws : List ByteArray} {wd : Int} {bs : List Int} (h : codeL ws wd bs = 0) : stR ws wd bs = (linesT ws wd.toNat (pairsW ws.length bs).length 0 (pairsW ws.length bs), 0) := by rw [stR, h, if_pos rfl]
theorem fit_lines {ws : List ByteArray} {W : Nat} {ps : List (Nat × Nat)} (h : ps.all (fitB ws (W : Int)) = true) {k : Nat} {p : Nat × Nat} (hp : ps[k]? = some p) : longN (lineW ws p) ≤ W := by
  have := List.all_eq_true.1 h p (List.mem_of_getElem? hp)
  simp only [fitB, decide_eq_true_eq] at this
  omega
theorem snoc_st {ws : List ByteArray} {W m : Nat} {ps : List (Nat × Nat)} {k : Nat} {p : Nat × Nat} (h : ps[k]? = some p) : (linesT ws W m 0 (ps.take (k + 1))).flatMap strC = (linesT ws W m 0 (ps.take k)).flatMap strC ++ [.string (stL ws W m k p)] := by rw [linesT_next h, snoc8s]
set_option maxRecDepth 100000 in
set_option maxHeartbeats 6400000 in
theorem st9_specC (A : Option Addr) (n c : Nat) (ws : List ByteArray) (wd : Int) (B : Option Addr) (k0 c0 : Nat) (bs : List Int) (w : World) (h : Strs w A n ws) (hB : Ints w B k0 bs) (hn : n ≤ 1048576) (hc : n ≤ c) (hk0 : k0 ≤ 1048576) (hg : ∀ x ∈ ws, x.size ≤ maxLen) :
    Calls Try.prog 31 #[.slice A n c, .int .i64 wd, .slice B k0 c0] w (TOut (stR ws wd bs) w) := by
  have hl := Lib.hid h.1
  generalize hv : stR ws wd bs = res
  replace hv := Lib.hid hv
  obtain ⟨q, hq⟩ : ∃ q, codeL ws wd bs = q := ⟨_, rfl⟩
  obtain ⟨b, off, hA⟩ : ∃ b off, 0 < n → A = some ⟨b, off, none⟩ := by
    by_cases h0 : 0 < n
    · obtain ⟨b, off, e, _⟩ := h.2 h0; exact ⟨b, off, fun _ => e⟩
    · exact ⟨0, 0, fun h => absurd h h0⟩
  have hc1 := Lib.hid (code9_spec A n c ws wd B k0 c0 bs w h hB hn hc hk0 hg hq)
  by_cases h0 : q = 0
  · subst h0
    obtain ⟨hok, hri, hfi⟩ := codeL_ok hq
    obtain ⟨n40, w1, w80, hws⟩ := okW_ok hok
    have hgood := stR_good hq
    rw [hl.out] at n40 hri hfi hgood
    obtain ⟨W, rfl⟩ : ∃ W : Nat, wd = (W : Int) := ⟨wd.toNat, by omega⟩
    obtain ⟨hpl, hpo, hp0, hbl, hpl1⟩ := pairs_ok hri
    have hc3 := Lib.hid (fun W hW => lines9_spec A n c b off hA B k0 c0 bs hri (by omega) hc W hW)
    obtain ⟨ps, hps⟩ : ∃ ps, pairsW n bs = ps := ⟨_, rfl⟩
    obtain ⟨m, hm⟩ : ∃ m, ps.length = m := ⟨_, rfl⟩
    rw [hps] at hc3 hpl hpo hfi hgood
    rw [hm, Int.toNat_natCast] at hgood
    rw [hm] at hpl
    have hres : Hid (res = (linesT ws W m 0 ps, 0)) := Lib.hid (by rw [← hv.out, hgood])
    have hcode : Hid (res.2 = 0) := Lib.hid (by rw [hres.out])
    have hpo0 := Lib.hid hpo
    have hws0 := Lib.hid hws
    have hfl := Lib.hid (fun k p hp => fit_lines (k := k) (p := p) hfi hp)
    have hlt0 := Lib.hid (linesT_len ws W m ps 0)
    obtain ⟨i0, hi, hz0, hz1, hz2⟩ := info_parts Try.infoStr
    have hW80 : W ≤ 80 := by omega
    clear hq hok hri hfi hg hws hpo hp0 hpl1 hv hgood hps
    go_enter Try.func31, Try.ntmps31
    go_wp2_with fail
    refine hc1.out.mono ?_
    rintro e w1 ⟨rfl, hb1⟩
    go_wp2_with fail
    refine (hc3.out _ (hB.below hb1)).mono ?_
    rintro e w3 ⟨v, rfl, hrow, hb3⟩
    rw [hm] at hrow
    obtain ⟨A', c', rfl, hO⟩ := owns_v9 hm hrow
    have hV := Lib.hid hO.srow
    have hS := h.below (hb1.step hb3)
    have hb13 := Lib.hid (hb1.step hb3)
    replace hm := Lib.hid hm
    clear hrow hO hc1 hc3 hb1 hb3 h hB
    go_wp2
    go_loopw [10, 11] (fun v i wr => ∃ k : Nat, k ≤ m ∧ i = .int .i64 (k : Int) ∧ Below w3.heap.size w3 wr ∧ wr.ownsRow w3.heap.size 9 1 v k ((linesT ws W m 0 (ps.take k)).flatMap strC)) (fun _ i _ => m - (intOf i).toNat)
    case atStart => exact ⟨0, by omega, rfl, below_a1 _ _, owns_new8 _ _⟩
    case round =>
      rename World => wr
      obtain ⟨k, hk, rfl, hbw, hrow⟩ := hrel
      have hwz := hbw.size
      by_cases hlt : k < m
      · obtain ⟨g, o, p, rfl, hgl, hx, c1⟩ := view_at (hV.out.below hbw) hlt
        have hgl3 : g < w3.heap.size := by obtain ⟨_, _, _, e2, hb2, _⟩ := view_at hV.out hlt; cases e2; exact hb2
        obtain ⟨p1, p2⟩ := hpo0.out p (List.mem_of_getElem? hx.out)
        have hA := hA (by omega)
        subst hA
        have hVs := view_strs hS p1 p2
        have hLf := hfl.out k p hx.out
        have hsn := Lib.hid (snoc_st (ws := ws) (W := W) (m := m) hx.out)
        have hszs : ∀ x ∈ lineW ws p, x.size ≤ 1000 := fun x hx => by have := (hws0.out x (lineW_mem hx)).2.1; omega
        have hwk : IntKind.i64.wrap ((k : Int) + 1) = (k : Int) + 1 := IntWalk.i64_in _ (by omega)
        have hk0' : (0 : Int) ≤ (k : Int) := Int.natCast_nonneg _
        have hkm : (k : Int) < (m : Int) := by omega
        by_cases hlast : k + 1 < m
        · have hst : Hid (stL ws W m k p = setB W (lineW ws p)) := Lib.hid (if_pos hlast)
          have hset := Lib.hid (set9_spec b (off + p.1) (p.2 - p.1) (c - p.1) (lineW ws p) W (by omega) (by omega) (by omega) hszs hLf wr (hVs.below hbw))
          have g1 : (k : Int) + 1 < (m : Int) := by omega
          rw [hst.out] at hsn
          have hrl0 := Lib.hid hrow
          clear hrow hVs hszs hLf
          go_wp2_with fail
          refine hset.out.mono ?_
          rintro e w5 ⟨rfl, hb5⟩
          have hbw5 := below_step8 hbw hb5 hwz
          have hwz5 := hbw5.size
          have hrl := Lib.hid (owns_keep8 hrl0.out hb5)
          clear hset hrl0 hb5 c1
          go_wp2_with (at_builtin; refine wpList_append_own _ rfl _ _ 22 rfl w3.heap.size 9 i0 _ 1 16 Try.underlying22 hi hz0 hz1 hz2 rfl (by decide) _ _ _ rfl (hrl.out.alloc _) ⟨w5.heap.size, 0, none⟩ 1 1 [.string (setB W (lineW ws p))] rfl rfl (news8 _ _ _) (one8s _) (by unfold maxLen; omega) (by omega) (by simp; omega) ?_)
          intro vqq wqq hownqq hgrqq hnilqq
          have hgqqq := grown_trans (grown_below (below_a1 w5 _) _) hgrqq
          clear hgrqq hnilqq
          have hq : Hid (wqq.ownsRow w3.heap.size 9 1 vqq (k + 1) ((linesT ws W m 0 (ps.take (k + 1))).flatMap strC) ∧ Below w3.heap.size w3 wqq) := Lib.hid ⟨by rw [hsn.out]; exact hownqq, hbw5.grown hgqqq hwz5 (fun j hj => owns_ge8 hrl.out hj)⟩
          clear hownqq hgqqq
          clear hrl
          go_wp2
          go_roundw
          case rel => exact ⟨k + 1, by omega, by go_num, hq.out.2, hq.out.1⟩
          case measure => simp [intOf]; omega
        · have hst : Hid (stL ws W m k p = setB (longN (lineW ws p)) (lineW ws p)) := Lib.hid (if_neg hlast)
          have g1 : ¬ (k : Int) + 1 < (m : Int) := by omega
          rw [hst.out] at hsn
          have hlo := Lib.hid (fun W' (hW' : Strs W' (some ⟨b, off + p.1, none⟩) (p.2 - p.1) (lineW ws p)) => long9_spec (some ⟨b, off + p.1, none⟩) (p.2 - p.1) (c - p.1) (lineW ws p) (by omega) hszs rfl W' hW')
          have hset := Lib.hid (fun W' hW' => set9_spec b (off + p.1) (p.2 - p.1) (c - p.1) (lineW ws p) (longN (lineW ws p)) (by omega) (by omega) (by omega) hszs (Nat.le_refl _) W' hW')
          generalize longN (lineW ws p) = LN at *
          generalize setB LN (lineW ws p) = SB at *
          obtain ⟨A5, c5, rfl⟩ := owns_form8 hrow
          have hrl := Lib.hid hrow
          clear hrow hszs hLf
          go_wp2_with fail
          refine wp_region_held_drew (S := fun w' => Below w3.heap.size w3 w' ∧ w'.cell? ⟨g, o + k, none⟩ = some (.slice (some ⟨b, off + p.1, none⟩) (p.2 - p.1) (c - p.1))) (by kernel_rfl) ?_ (fun hHeld => ?_)
          · exact ⟨hbw.drew, c1⟩
          refine wpAnyH_take (i := 0) (v := ?vsU1_0) rfl (by kernel_rfl) (by kernel_rfl) (by kernel_rfl) (fun _ _ _ h => h) (Or.inl ⟨rfl, ?ysU1_0⟩) (by assumption) ?_
          case ysU1_0 => (intro w hSw; (try dsimp only at hSw); go_simp; first | done | with_reducible rfl)
          simp only [List.getElem_toArray, List.getElem_cons_succ, List.getElem_cons_zero, Act.put, List.setIfInBounds_toArray, List.set_cons_zero, List.set_cons_succ]
          refine wpAnyH_take (i := 1) (v := ?vsU1_1) rfl (by kernel_rfl) (by kernel_rfl) (by kernel_rfl) (fun _ _ _ h => h) (Or.inl ⟨rfl, ?ysU1_1⟩) (by assumption) ?_
          case ysU1_1 => (intro w hSw; (try dsimp only at hSw); go_simp; first | done | with_reducible rfl)
          simp only [List.getElem_toArray, List.getElem_cons_succ, List.getElem_cons_zero, Act.put, List.setIfInBounds_toArray, List.set_cons_zero, List.set_cons_succ]
          refine wpAnyH_take (i := 2) (v := ?vsU1_2) rfl (by kernel_rfl) (by kernel_rfl) (by kernel_rfl) (fun _ _ _ h => h) (Or.inl ⟨rfl, ?ysU1_2⟩) (by assumption) ?_
          case ysU1_2 => (intro w hSw; (try dsimp only at hSw); go_simp; first | done | with_reducible rfl)
          simp only [List.getElem_toArray, List.getElem_cons_succ, List.getElem_cons_zero, Act.put, List.setIfInBounds_toArray, List.set_cons_zero, List.set_cons_succ]
          refine wpAnyH_take (i := 3) (v := ?vsU1_3) rfl (by kernel_rfl) (by kernel_rfl) (by kernel_rfl) (fun _ _ _ h => h) (Or.inl ⟨rfl, ?ysU1_3⟩) (by assumption) ?_
          case ysU1_3 => (intro w hSw; (try dsimp only at hSw); go_simp; first | done | with_reducible rfl)
          simp only [List.getElem_toArray, List.getElem_cons_succ, List.getElem_cons_zero, Act.put, List.setIfInBounds_toArray, List.set_cons_zero, List.set_cons_succ]
          refine wpAnyH_take (i := 4) (v := ?vsU1_4) rfl (by kernel_rfl) (by kernel_rfl) (by kernel_rfl) (fun _ _ _ h => h) (Or.inl ⟨rfl, ?ysU1_4⟩) (by assumption) ?_
          case ysU1_4 => (intro w hSw; (try dsimp only at hSw); go_simp; first | done | with_reducible rfl)
          simp only [List.getElem_toArray, List.getElem_cons_succ, List.getElem_cons_zero, Act.put, List.setIfInBounds_toArray, List.set_cons_zero, List.set_cons_succ]
          refine wpAnyH_take (i := 5) (v := ?vsU1_5) rfl (by kernel_rfl) (by kernel_rfl) (by kernel_rfl) (fun _ _ _ h => h) (Or.inl ⟨rfl, ?ysU1_5⟩) (by assumption) ?_
          case ysU1_5 => (intro w hSw; (try dsimp only at hSw); go_simp; first | done | with_reducible rfl)
          simp only [List.getElem_toArray, List.getElem_cons_succ, List.getElem_cons_zero, Act.put, List.setIfInBounds_toArray, List.set_cons_zero, List.set_cons_succ]
          refine wpAnyH_take (i := 6) (v := ?vsU1_6) rfl (by kernel_rfl) (by kernel_rfl) (by kernel_rfl) (fun _ _ _ h => h) (Or.inl ⟨rfl, ?ysU1_6⟩) (by assumption) ?_
          case ysU1_6 => (intro w hSw; (try dsimp only at hSw); go_simp; first | done | with_reducible rfl)
          simp only [List.getElem_toArray, List.getElem_cons_succ, List.getElem_cons_zero, Act.put, List.setIfInBounds_toArray, List.set_cons_zero, List.set_cons_succ]
          refine wpAnyH_take (i := 7) (v := ?vsU1_7) rfl (by kernel_rfl) (by kernel_rfl) (by kernel_rfl) (fun _ _ _ h => h) (Or.inl ⟨rfl, ?ysU1_7⟩) (by assumption) ?_
          case ysU1_7 => (intro w hSw; (try dsimp only at hSw); go_simp; first | done | with_reducible rfl)
          simp only [List.getElem_toArray, List.getElem_cons_succ, List.getElem_cons_zero, Act.put, List.setIfInBounds_toArray, List.set_cons_zero, List.set_cons_succ]
          refine wpAnyH_take (i := 8) (v := ?vsU1_8) rfl (by kernel_rfl) (by kernel_rfl) (by kernel_rfl) (fun _ _ _ h => h) (Or.inl ⟨rfl, ?ysU1_8⟩) (by assumption) ?_
          case ysU1_8 => (intro w hSw; (try dsimp only at hSw); go_simp; first | done | with_reducible rfl)
          simp only [List.getElem_toArray, List.getElem_cons_succ, List.getElem_cons_zero, Act.put, List.setIfInBounds_toArray, List.set_cons_zero, List.set_cons_succ]
          refine wpAnyH_ready (rs := [9]) (by kernel_rfl) (by simp) ?_
          refine AllReadyH.cons rfl (fun K hK => ?_) AllReadyH.nil
          go_simp
          refine (hlo.out _ (hVs.below hHeld.1)).mono ?_
          rintro e w6 ⟨rfl, rfl⟩
          go_wp2_with fail
          refine hK.out _ _ ?_ (fun hHeld => ?_)
          · exact hHeld
          clear hK K
          try simp only [List.getElem_toArray, List.getElem_cons_succ, List.getElem_cons_zero, Act.put, List.setIfInBounds_toArray, List.set_cons_zero, List.set_cons_succ]
          refine wpAnyH_ready (rs := [10]) (by kernel_rfl) (by simp) ?_
          refine AllReadyH.cons rfl (fun K hK => ?_) AllReadyH.nil
          go_simp
          refine (hset.out _ (hVs.below hHeld.1)).mono ?_
          rintro e w7 ⟨rfl, hb7⟩
          have hb7d := ((Below.refl _ wr).drew).step hb7
          go_wp2_with fail
          refine hK.out _ _ ?_ (fun hHeld => ?_)
          · exact ⟨below_step8 hHeld.1 hb7 hHeld.1.size, cell_step hHeld.2 hb7⟩
          clear hK K
          try simp only [List.getElem_toArray, List.getElem_cons_succ, List.getElem_cons_zero, Act.put, List.setIfInBounds_toArray, List.set_cons_zero, List.set_cons_succ]
          have hrk := Lib.hid (owns_keep8 hrl.out hb7d)
          have hbw7 := Lib.hid hHeld.1
          have hcp := (hbw.cell (p := ⟨g, o + k, none⟩) hgl3).symm.trans c1
          clear hrl hb7 hb7d
          refine wpAnyH_ready (rs := [11]) (by kernel_rfl) (by simp) ?_
          refine AllReadyH.cons rfl (fun K hK => ?_) AllReadyH.nil
          go_simp
          refine hK.out _ _ ?_ (fun hHeld => ?_)
          · exact ⟨hbw7.out.alloc hbw7.out.size _, cell_on hHeld.2 _⟩
          clear hK K
          try simp only [List.getElem_toArray, List.getElem_cons_succ, List.getElem_cons_zero, Act.put, List.setIfInBounds_toArray, List.set_cons_zero, List.set_cons_succ]
          refine wpAnyH_ready (rs := [12]) (by kernel_rfl) (by simp) ?_
          refine AllReadyH.cons rfl (fun K hK => ?_) AllReadyH.nil
          refine step_append_lies _ rfl (.tmp 43) (.tmp 54) 22 rfl w3.heap.size 9 i0 _ 1 16 Try.underlying22 hi hz0 hz1 hz2 rfl (by decide) (.slice A5 k c5) k ((linesT ws W m 0 (ps.take k)).flatMap strC) rfl (hrk.out.alloc _) ⟨w7.heap.size, 0, none⟩ 1 1 [.string SB] rfl rfl (news8 _ _ _) (one8s _) (by decide) (by unfold maxLen; omega) (by omega) (by have := hbw7.out.size; simp [World.drew]; omega) _ rfl (fun g5 cap w5 ho5 hg5 _ hlt5 => ?_)
          have hA5 : ∀ k2, (Value.slice A5 k c5).ownBlock = some k2 → w3.heap.size ≤ k2 := fun k2 hk2 => owns_ge8 hrk.out hk2
          have hb5 : Hid (Below w3.heap.size w3 w5) := Lib.hid (Below.grown (hbw7.out.alloc hbw7.out.size _) hg5 (by have := hbw7.out.size; simp; omega) hA5)
          have hrow5 : Hid (w5.ownsRow w3.heap.size 9 1 (.slice (some ⟨g5, 0, none⟩) (k + 1) cap) (k + 1) ((linesT ws W m 0 (ps.take (k + 1))).flatMap strC)) := Lib.hid (by rw [hsn.out]; exact ho5)
          refine hK.out _ _ ⟨hb5.out, (hb5.out.cell (p := ⟨g, o + k, none⟩) hgl3).trans hcp⟩ (fun hHeld5 => ?_)
          clear hK K hA5 hg5 ho5
          try simp only [List.getElem_toArray, List.getElem_cons_succ, List.getElem_cons_zero, Act.put, List.setIfInBounds_toArray, List.set_cons_zero, List.set_cons_succ]
          refine wpAnyH_take (i := 13) (v := ?vzU1_13) rfl (by kernel_rfl) (by kernel_rfl) (by kernel_rfl) (fun _ _ _ h => h) (Or.inl ⟨rfl, ?yzU1_13⟩) (by assumption) ?_
          case yzU1_13 => (intro w hSw; (try dsimp only at hSw); go_simp; first | done | with_reducible rfl)
          simp only [List.getElem_toArray, List.getElem_cons_succ, List.getElem_cons_zero, Act.put, List.setIfInBounds_toArray, List.set_cons_zero, List.set_cons_succ]
          refine wpAnyH_done (by kernel_rfl) ?_ _
          go_wp2
          go_roundw
          case rel => exact ⟨k + 1, by omega, by go_num, hb5.out, hrow5.out⟩
          case measure => simp [intOf]; omega
      · obtain rfl : k = m := by omega
        have g1 : ¬ (k : Int) < (k : Int) := by omega
        rw [List.take_of_length_le (by rw [hm.out]; exact Nat.le_refl _)] at hrow
        obtain ⟨A9, c9, rfl, hO⟩ := owns_s8 (by rw [hlt0.out, hm.out]) hrow
        have hO2 := Lib.hid hO
        have hbe := hb13.out.step hbw
        clear hO hrow
        go_wp2
        go_ret2
        exact ⟨A9, k, c9, by rw [hcode.out]; rfl, by omega, by rw [hres.out]; exact hO2.out.mono hb13.out.size, hbe⟩
  · have hres : Hid (res = ([], q)) := Lib.hid (by rw [← hv.out, stR_bad hq h0])
    have g0 : (q == 0) = false := beq_eq_false_iff_ne.2 h0
    replace h0 := Lib.hid h0
    clear hq hv h hB hg
    go_enter Try.func31, Try.ntmps31
    go_wp2_with fail
    refine hc1.out.mono ?_
    rintro e w1 ⟨rfl, hb1⟩
    go_wp2
    go_ret2
    exact TOut.bad hres.out hb1
theorem st9_spec (A : Option Addr) (n m : Nat) (ws : List ByteArray) (wd : Int) (B : Option Addr) (k0 c0 : Nat) (bs : List Int) (w : World) (h : Strs w A n ws) (hn : n ≤ 1048576) (hg : ∀ x ∈ ws, strGood x) (hw : (Lit.int .i64 wd).wf = true) (hB : Ints w B k0 bs) (hk0 : k0 ≤ 1048576) (hbg : ∀ x ∈ bs, intGood x) :
    Calls Try.prog 31 #[.slice A n n, .int .i64 wd, .slice B k0 c0] w (TOut (stR ws wd bs) w) := st9_specC A n n ws wd B k0 c0 bs w h hB hn (Nat.le_refl _) hk0 hg
set_option maxRecDepth 100000 in
set_option maxHeartbeats 6400000 in
theorem st9_implC (A : Option Addr) (n c : Nat) (ws : List ByteArray) (wd : Int) (B : Option Addr) (k0 c0 : Nat) (bs : List Int) (w : World) (h : Strs w A n ws) (hB : Ints w B k0 bs) (hn : n ≤ 1048576) (hc : n ≤ c) (hk0 : k0 ≤ 1048576) (hg : ∀ x ∈ ws, x.size ≤ maxLen) :
    Calls Try.prog 32 #[.slice A n c, .int .i64 wd, .slice B k0 c0] w (TOut (stR ws wd bs) w) := by
  have hl := Lib.hid h.1
  generalize hv : stR ws wd bs = res
  replace hv := Lib.hid hv
  obtain ⟨q, hq⟩ : ∃ q, codeL ws wd bs = q := ⟨_, rfl⟩
  obtain ⟨b, off, hA⟩ : ∃ b off, 0 < n → A = some ⟨b, off, none⟩ := by
    by_cases h0 : 0 < n
    · obtain ⟨b, off, e, _⟩ := h.2 h0; exact ⟨b, off, fun _ => e⟩
    · exact ⟨0, 0, fun h => absurd h h0⟩
  have hc1 := Lib.hid (lb9_impl A n c ws wd B k0 c0 bs b off hA w h hB hn hc hk0 hg hq)
  by_cases h0 : q = 0
  · subst h0
    obtain ⟨hok, hri, hfi⟩ := codeL_ok hq
    obtain ⟨n40, w1, w80, hws⟩ := okW_ok hok
    have hgood := stR_good hq
    rw [hl.out] at n40 hri hfi hgood
    obtain ⟨W, rfl⟩ : ∃ W : Nat, wd = (W : Int) := ⟨wd.toNat, by omega⟩
    obtain ⟨hpl, hpo, hp0, hbl, hpl1⟩ := pairs_ok hri
    
    obtain ⟨ps, hps⟩ : ∃ ps, pairsW n bs = ps := ⟨_, rfl⟩
    obtain ⟨m, hm⟩ : ∃ m, ps.length = m := ⟨_, rfl⟩
    rw [hps] at hc1 hpl hpo hfi hgood
    rw [hm, Int.toNat_natCast] at hgood
    rw [hm] at hpl
    have hres : Hid (res = (linesT ws W m 0 ps, 0)) := Lib.hid (by rw [← hv.out, hgood])
    have hcode : Hid (res.2 = 0) := Lib.hid (by rw [hres.out])
    have hpo0 := Lib.hid hpo
    have hws0 := Lib.hid hws
    have hfl := Lib.hid (fun k p hp => fit_lines (k := k) (p := p) hfi hp)
    have hlt0 := Lib.hid (linesT_len ws W m ps 0)
    obtain ⟨i0, hi, hz0, hz1, hz2⟩ := info_parts Try.infoStr
    have hW80 : W ≤ 80 := by omega
    clear hq hok hri hfi hg hws hpo hp0 hpl1 hv hgood hps
    go_enter Try.func32, Try.ntmps32
    go_wp2_with fail
    refine hc1.out.mono ?_
    rintro e w3 ⟨hb3, ⟨_, v, rfl, hrow⟩ | ⟨h9, _⟩⟩
    · rw [hm] at hrow
      obtain ⟨A', c', rfl, hO⟩ := owns_v9 hm hrow
      have hV := Lib.hid hO.srow
      have hS := h.below hb3
      have hb13 := Lib.hid hb3
      replace hm := Lib.hid hm
      have hwm : IntKind.i64.wrap ((m : Int) - 1) = (m : Int) - 1 := IntWalk.i64_in _ (by omega)
      clear hrow hO hc1 hb3 h hB
      go_wp2
      go_loopw [10, 11, 12, 25] (fun v _ _ i wr => ∃ k : Nat, k ≤ m ∧ i = .int .i64 (k : Int) ∧ Below w3.heap.size w3 wr ∧ wr.ownsRow w3.heap.size 9 1 v k ((linesT ws W m 0 (ps.take k)).flatMap strC)) (fun _ _ _ i _ => m - (intOf i).toNat)
      case atStart => exact ⟨0, by omega, rfl, Below.refl _ _, owns_nil8 _ _ _⟩
      case round =>
        rename World => wr
        obtain ⟨k, hk, rfl, hbw, hrow⟩ := hrel
        have hwz := hbw.size
        by_cases hlt : k < m
        · obtain ⟨g, o, p, rfl, hgl, hx, c1⟩ := view_at (hV.out.below hbw) hlt
          obtain ⟨p1, p2⟩ := hpo0.out p (List.mem_of_getElem? hx.out)
          have hA := hA (by omega)
          subst hA
          have hVs := view_strs hS p1 p2
          have hLf := hfl.out k p hx.out
          have hsn := Lib.hid (snoc_st (ws := ws) (W := W) (m := m) hx.out)
          have hszs : ∀ x ∈ lineW ws p, x.size ≤ 1000 := fun x hx => by have := (hws0.out x (lineW_mem hx)).2.1; omega
          have hk0' : (0 : Int) ≤ (k : Int) := Int.natCast_nonneg _
          have hkm : (k : Int) < (m : Int) := by omega
          by_cases hlast : k + 1 < m
          · have hst : Hid (stL ws W m k p = setB W (lineW ws p)) := Lib.hid (if_pos hlast)
            have hset := Lib.hid (just9_impl b (off + p.1) (p.2 - p.1) (c - p.1) (lineW ws p) W (by omega) (by omega) (by omega) (by omega) hszs hLf wr (hVs.below hbw))
            have g1 : (k : Int) < (m : Int) - 1 := by omega
            rw [hst.out] at hsn
            have hrl0 := Lib.hid hrow
            clear hrow hVs hszs hLf
            go_wp2_with fail
            refine hset.out.mono ?_
            rintro e w5 ⟨rfl, hb5⟩
            have hbw5 := below_step8 hbw hb5 hwz
            have hwz5 := hbw5.size
            have hrl := Lib.hid (owns_keep8 hrl0.out hb5)
            clear hset hrl0 hb5 c1
            go_wp2_with (at_builtin; refine wpList_append_own _ rfl _ _ 22 rfl w3.heap.size 9 i0 _ 1 16 Try.underlying22 hi hz0 hz1 hz2 rfl (by decide) _ _ _ rfl (hrl.out.alloc _) ⟨w5.heap.size, 0, none⟩ 1 1 [.string (setB W (lineW ws p))] rfl rfl (news8 _ _ _) (one8s _) (by unfold maxLen; omega) (by omega) (by simp; omega) ?_)
            intro vqq wqq hownqq hgrqq hnilqq
            have hgqqq := grown_trans (grown_below (below_a1 w5 _) _) hgrqq
            clear hgrqq hnilqq
            have hq : Hid (wqq.ownsRow w3.heap.size 9 1 vqq (k + 1) ((linesT ws W m 0 (ps.take (k + 1))).flatMap strC) ∧ Below w3.heap.size w3 wqq) := Lib.hid ⟨by rw [hsn.out]; exact hownqq, hbw5.grown hgqqq hwz5 (fun j hj => owns_ge8 hrl.out hj)⟩
            clear hownqq hgqqq
            clear hrl
            go_wp2
            go_roundw
            case rel => exact ⟨k + 1, by omega, by go_num, hq.out.2, hq.out.1⟩
            case measure => simp [intOf]; omega
          · have hst : Hid (stL ws W m k p = blankB (lineW ws p)) := Lib.hid (by rw [stL, if_neg hlast, setB, setL_long _ (by rw [lineW_len p1 (by rw [hl.out]; exact p2)]; omega)]; rfl)
            have hset := Lib.hid (with9_impl b (off + p.1) (p.2 - p.1) (c - p.1) (lineW ws p) wr (hVs.below hbw) (by omega) (by omega) (by omega) hszs)
            have g1 : ¬ (k : Int) < (m : Int) - 1 := by omega
            rw [hst.out] at hsn
            have hrl0 := Lib.hid hrow
            clear hrow hVs hszs hLf
            go_wp2_with fail
            refine hset.out.mono ?_
            rintro e w5 ⟨rfl, hb5⟩
            have hbw5 := below_step8 hbw hb5 hwz
            have hwz5 := hbw5.size
            have hrl := Lib.hid (owns_keep8 hrl0.out hb5)
            clear hset hrl0 hb5 c1
            go_wp2_with (at_builtin; refine wpList_append_own _ rfl _ _ 22 rfl w3.heap.size 9 i0 _ 1 16 Try.underlying22 hi hz0 hz1 hz2 rfl (by decide) _ _ _ rfl (hrl.out.alloc _) ⟨w5.heap.size, 0, none⟩ 1 1 [.string (blankB (lineW ws p))] rfl rfl (news8 _ _ _) (one8s _) (by unfold maxLen; omega) (by omega) (by simp; omega) ?_)
            intro vqq wqq hownqq hgrqq hnilqq
            have hgqqq := grown_trans (grown_below (below_a1 w5 _) _) hgrqq
            clear hgrqq hnilqq
            have hq : Hid (wqq.ownsRow w3.heap.size 9 1 vqq (k + 1) ((linesT ws W m 0 (ps.take (k + 1))).flatMap strC) ∧ Below w3.heap.size w3 wqq) := Lib.hid ⟨by rw [hsn.out]; exact hownqq, hbw5.grown hgqqq hwz5 (fun j hj => owns_ge8 hrl.out hj)⟩
            clear hownqq hgqqq
            clear hrl
            go_wp2
            go_roundw
            case rel => exact ⟨k + 1, by omega, by go_num, hq.out.2, hq.out.1⟩
            case measure => simp [intOf]; omega
        · obtain rfl : k = m := by omega
          have g1 : ¬ (k : Int) < (k : Int) := by omega
          rw [List.take_of_length_le (by rw [hm.out]; exact Nat.le_refl _)] at hrow
          obtain ⟨A9, c9, rfl, hO⟩ := owns_s8 (by rw [hlt0.out, hm.out]) hrow
          have hO2 := Lib.hid hO
          have hbe := hb13.out.step hbw
          clear hO hrow
          go_wp2
          go_ret2
          exact ⟨A9, k, c9, by rw [hcode.out]; rfl, by omega, by rw [hres.out]; exact hO2.out.mono hb13.out.size, hbe⟩
    · exact absurd rfl h9
  · have hres : Hid (res = ([], q)) := Lib.hid (by rw [← hv.out, stR_bad hq h0])
    have g0 : (q == 0) = false := beq_eq_false_iff_ne.2 h0
    replace h0 := Lib.hid h0
    clear hq hv h hB hg
    go_enter Try.func32, Try.ntmps32
    go_wp2_with fail
    refine hc1.out.mono ?_
    rintro e w3 ⟨hb1, ⟨h9, _⟩ | ⟨_, rfl⟩⟩
    · exact absurd h9 h0.out
    · go_wp2
      go_ret2
      exact TOut.bad hres.out hb1
theorem st9_impl (A : Option Addr) (n m : Nat) (ws : List ByteArray) (wd : Int) (B : Option Addr) (k0 c0 : Nat) (bs : List Int) (w : World) (h : Strs w A n ws) (hn : n ≤ 1048576) (hg : ∀ x ∈ ws, strGood x) (hw : (Lit.int .i64 wd).wf = true) (hB : Ints w B k0 bs) (hk0 : k0 ≤ 1048576) (hbg : ∀ x ∈ bs, intGood x) :
    Calls Try.prog 32 #[.slice A n n, .int .i64 wd, .slice B k0 c0] w (TOut (stR ws wd bs) w) := st9_implC A n n ws wd B k0 c0 bs w h hB hn (Nat.le_refl _) hk0 hg
end Go.Proofs.Ytcaojaaooadeaaa
