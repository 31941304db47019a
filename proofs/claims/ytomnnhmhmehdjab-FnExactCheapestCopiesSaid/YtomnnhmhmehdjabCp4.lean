/- Copies: the model's cheapest way, and from where on a stencil is cheaper. -/
import Derived.Test.YtomnnhmhmehdjabCp3
namespace Go.Proofs.Ytomnnhmhmehdjab
open Go.RowKit Go.ChangeShapes Go.WideShapes Go.Deep
set_option linter.unusedVariables false
set_option linter.unusedSimpArgs false

theorem ret13_4 {p : Int × Int × Int × Int} {a b c d : Int} (h : p = (a, b, c, d)) : Ending.returned (.tuple #[.int .i64 a, .int .i64 b, .int .i64 c, .int .i64 d]) = .returned (.tuple #[.int .i64 p.1, .int .i64 p.2.1, .int .i64 p.2.2.1, .int .i64 p.2.2.2]) := by rw [h]
/-- Best and least, behind so many rounds. -/
def bestAt (c : CarbonD) (x : WaysD) (N : Int) : Nat → Int × Int
  | 0 => (-1, 0)
  | k + 1 => (((cheapV c x N k).1 : Int), (cheapV c x N k).2)
theorem bestAt_first (c : CarbonD) (x : WaysD) (N : Int) : bestAt c x N 1 = (0, priceV c x N 0) := rfl
theorem bestAt_next {c : CarbonD} {x : WaysD} {N : Int} {k : Nat} (h : 0 < k) : bestAt c x N (k + 1) = if priceV c x N k < (bestAt c x N k).2 then ((k : Int), priceV c x N k) else bestAt c x N k := by
  obtain ⟨j, rfl⟩ : ∃ j, k = j + 1 := ⟨k - 1, by omega⟩
  rw [bestAt, bestAt, cheapV]
  split <;> rfl
set_option maxRecDepth 100000 in
set_option maxHeartbeats 3200000 in
theorem cc13_spec (c : CarbonD) (x : WaysD) (n : Int) (w : World) (hg : c.good) (hgx : x.good) (hwf : (Lit.int .i64 n).wf = true) :
    Calls Try.prog 27 #[.agg #[.int .i64 c.force, .int .i64 c.loss, .int .i64 c.least], .agg #[.int .i64 x.typing, .int .i64 x.sheet, .int .i64 x.stencil, .int .i64 x.pull], .int .i64 n] w fun e w' => e = .returned (.tuple #[.int .i64 (ccR c x n).1, .int .i64 (ccR c x n).2.1, .int .i64 (ccR c x n).2.2.1, .int .i64 (ccR c x n).2.2.2]) ∧ Below w.heap.size w w' := by
  clear hg hgx hwf
  generalize hr : ccR c x n = r
  replace hr := Lib.hid hr.symm
  obtain ⟨q, hq⟩ : ∃ q, cpC c x n = q := ⟨_, rfl⟩
  have hc := Lib.hid (fun W => code13 c x n hq W)
  by_cases h0 : q = 0
  · subst h0
    obtain ⟨h1, h2, h3, h4⟩ := cpC_ok hq
    obtain ⟨N, rfl⟩ : ∃ N : Nat, n = (N : Int) := ⟨n.toNat, by omega⟩
    have hb : Hid (r = ((bestAt c x (N : Int) (N + 1)).1, (N : Int) - (bestAt c x (N : Int) (N + 1)).1, (bestAt c x (N : Int) (N + 1)).2, 0)) := Lib.hid (by rw [hr.out, ccR, if_pos hq, Int.toNat_natCast]; rfl)
    have hca := Lib.hid (fun (k : Nat) (hk : k ≤ N) W => carbon13 c x h1 h2 (k : Int) (by omega) (by omega) rfl W)
    have hst := Lib.hid (fun (k : Nat) (hk : k ≤ N) W => ste13 x h2 ((N : Int) - (k : Int)) (by omega) (by omega) rfl W)
    have hrg := Lib.hid (fun (k : Nat) (hk : k ≤ N) => priceV_range h1 h2 (N := (N : Int)) h4 (k := k) (by omega))
    have hble := Lib.hid (fun k => cheapV_le c x (N : Int) k)
    have hpr : Hid (∀ k : Nat, priceV c x (N : Int) k = carV c x (k : Int) + steV x ((N : Int) - (k : Int))) := Lib.hid (fun k => rfl)
    have hb1st := Lib.hid (bestAt_first c x (N : Int))
    have hbnx := Lib.hid (fun (k : Nat) (hk : 0 < k) => bestAt_next (c := c) (x := x) (N := (N : Int)) hk)
    have hbpos := Lib.hid (fun k => show 0 ≤ (bestAt c x (N : Int) (k + 1)).1 from Int.natCast_nonneg _)
    have hb0 := Lib.hid (show bestAt c x (N : Int) 0 = (-1, 0) from rfl)
    have hbN : Hid ((bestAt c x (N : Int) (N + 1)).1 ≤ N) := Lib.hid (by have := (cheapV_le c x (N : Int) N).1; show ((cheapV c x (N : Int) N).1 : Int) ≤ N; omega)
    clear hq h1 h2 hr
    generalize bestAt c x (N : Int) = BA at *
    generalize priceV c x (N : Int) = PV at *
    generalize carV c x = CV at *
    generalize steV x = SV at *
    clear hble
    obtain ⟨F, L, E⟩ := c
    obtain ⟨a, b, s, p⟩ := x
    simp only at hc hca hst
    go_enter Try.func27, Try.ntmps27
    go_wp2_with fail
    refine (hc.out _).mono ?_
    rintro e w1 ⟨rfl, hb1⟩
    obtain ⟨B3, B4⟩ := box43 w _ _ (.int .i64 F) (.int .i64 L) (.int .i64 E) (.int .i64 a) (.int .i64 b) (.int .i64 s) (.int .i64 p)
    obtain ⟨q0, q1, q2⟩ := B3.step hb1
    obtain ⟨r0, r1, r2, r3⟩ := B4.step hb1
    have hbe := Lib.hid ((below_a2 _ _ _).step hb1)
    clear B3 B4 hb1
    go_wp2
    go_loopw [11, 12, 13, 14] (fun be le kk _ wr => ∃ k : Nat, k ≤ N + 1 ∧ kk = .int .i64 (k : Int) ∧ be = .int .i64 (BA k).1 ∧ le = .int .i64 (BA k).2 ∧ (fun w' => w'.cell? ⟨w.heap.size, 0, none⟩ = some (.int .i64 F) ∧ w'.cell? ⟨w.heap.size, 1, none⟩ = some (.int .i64 L) ∧ w'.cell? ⟨w.heap.size, 2, none⟩ = some (.int .i64 E) ∧ w'.cell? ⟨w.heap.size + 1, 0, none⟩ = some (.int .i64 a) ∧ w'.cell? ⟨w.heap.size + 1, 1, none⟩ = some (.int .i64 b) ∧ w'.cell? ⟨w.heap.size + 1, 2, none⟩ = some (.int .i64 s) ∧ w'.cell? ⟨w.heap.size + 1, 3, none⟩ = some (.int .i64 p) ∧ Below w.heap.size w w') wr) (fun _ _ kk _ _ => N + 1 - (intOf kk).toNat)
    case atStart => exact ⟨0, by omega, rfl, by rw [hb0.out], by rw [hb0.out], q0, q1, q2, r0, r1, r2, r3, hbe.out⟩
    case round =>
      clear q0 q1 q2 r0 r1 r2 r3 hbe
      rename World => wr
      obtain ⟨k, hk, rfl, rfl, rfl, hHr⟩ := hrel
      obtain ⟨q0, q1, q2, r0, r1, r2, r3, hbw⟩ := id hHr
      by_cases hlt : k ≤ N
      · have hk0 : (0 : Int) ≤ (k : Int) := Int.natCast_nonneg _
        have g1 : decide ((k : Int) ≤ (N : Int)) = true := decide_eq_true (by omega)
        have g2 : decide (k ≤ N) = true := decide_eq_true hlt
        have hca1 := Lib.hid (hca.out k hlt)
        have hst1 := Lib.hid (hst.out k hlt)
        obtain ⟨p0, p1⟩ := hrg.out k hlt
        have hpk := hpr.out k
        obtain ⟨C1, hC1⟩ : ∃ C1, CV (k : Int) = C1 := ⟨_, rfl⟩
        obtain ⟨S1, hS1⟩ : ∃ S1, SV ((N : Int) - (k : Int)) = S1 := ⟨_, rfl⟩
        obtain ⟨P1, hP1⟩ : ∃ P1, PV k = P1 := ⟨_, rfl⟩
        rw [hC1] at hca1 hpk
        rw [hS1] at hst1 hpk
        rw [hP1] at p0 p1 hpk
        have hw1 : IntKind.i64.wrap ((N : Int) - (k : Int)) = (N : Int) - (k : Int) := IntWalk.i64_in _ (by omega)
        have hw2 : IntKind.i64.wrap (C1 + S1) = P1 := by rw [← hpk]; exact IntWalk.i64_in _ (by omega)
        have hwk : IntKind.i64.wrap ((k : Int) + 1) = ((k + 1 : Nat) : Int) := by rw [IntWalk.i64_in _ (by omega)]; omega
        replace hpk := Lib.hid hpk
        obtain ⟨D1, hD1⟩ : ∃ D1, (N : Int) - (k : Int) = D1 := ⟨_, rfl⟩
        rw [hD1] at hst1 hw1 hS1
        replace hD1' := hD1
        clear hHr
        go_wp2_with fail
        refine wp_region_held_drew (S := fun w' => w'.cell? ⟨w.heap.size, 0, none⟩ = some (.int .i64 F) ∧ w'.cell? ⟨w.heap.size, 1, none⟩ = some (.int .i64 L) ∧ w'.cell? ⟨w.heap.size, 2, none⟩ = some (.int .i64 E) ∧ w'.cell? ⟨w.heap.size + 1, 0, none⟩ = some (.int .i64 a) ∧ w'.cell? ⟨w.heap.size + 1, 1, none⟩ = some (.int .i64 b) ∧ w'.cell? ⟨w.heap.size + 1, 2, none⟩ = some (.int .i64 s) ∧ w'.cell? ⟨w.heap.size + 1, 3, none⟩ = some (.int .i64 p) ∧ Below w.heap.size w w') (by kernel_rfl) ?_ (fun hHeld => ?_)
        · exact ⟨cell_step (q0) ((Below.refl _ wr).drew), cell_step (q1) ((Below.refl _ wr).drew), cell_step (q2) ((Below.refl _ wr).drew), cell_step (r0) ((Below.refl _ wr).drew), cell_step (r1) ((Below.refl _ wr).drew), cell_step (r2) ((Below.refl _ wr).drew), cell_step (r3) ((Below.refl _ wr).drew), hbw.drew⟩
        refine wpAnyH_take (i := 0) (v := ?vqU1_0) rfl (by kernel_rfl) (by kernel_rfl) (by kernel_rfl) (fun _ _ _ h => h) (Or.inl ⟨rfl, ?yqU1_0⟩) (by assumption) ?_
        case yqU1_0 => (intro w hSw; (try dsimp only at hSw); go_simp; first | done | with_reducible rfl)
        simp only [List.getElem_toArray, List.getElem_cons_succ, List.getElem_cons_zero, Act.put, List.setIfInBounds_toArray, List.set_cons_zero, List.set_cons_succ]
        refine wpAnyH_take (i := 1) (v := ?vqU1_1) rfl (by kernel_rfl) (by kernel_rfl) (by kernel_rfl) (fun _ _ _ h => h) (Or.inl ⟨rfl, ?yqU1_1⟩) (by assumption) ?_
        case yqU1_1 => (intro w hSw; (try dsimp only at hSw); go_simp; first | done | with_reducible rfl)
        simp only [List.getElem_toArray, List.getElem_cons_succ, List.getElem_cons_zero, Act.put, List.setIfInBounds_toArray, List.set_cons_zero, List.set_cons_succ]
        refine wpAnyH_take (i := 2) (v := ?vqU1_2) rfl (by kernel_rfl) (by kernel_rfl) (by kernel_rfl) (fun _ _ _ h => h) (Or.inl ⟨rfl, ?yqU1_2⟩) (by assumption) ?_
        case yqU1_2 => (intro w hSw; (try dsimp only at hSw); go_simp; first | done | with_reducible rfl)
        simp only [List.getElem_toArray, List.getElem_cons_succ, List.getElem_cons_zero, Act.put, List.setIfInBounds_toArray, List.set_cons_zero, List.set_cons_succ]
        refine wpAnyH_take (i := 4) (v := ?vqU1_4) rfl (by kernel_rfl) (by kernel_rfl) (by kernel_rfl) (fun _ _ _ h => h) (Or.inl ⟨rfl, ?yqU1_4⟩) (by assumption) ?_
        case yqU1_4 => (intro w hSw; (try dsimp only at hSw); go_simp; first | done | with_reducible rfl)
        simp only [List.getElem_toArray, List.getElem_cons_succ, List.getElem_cons_zero, Act.put, List.setIfInBounds_toArray, List.set_cons_zero, List.set_cons_succ]
        refine wpAnyH_take (i := 5) (v := ?vqU1_5) rfl (by kernel_rfl) (by kernel_rfl) (by kernel_rfl) (fun _ _ _ h => h) (Or.inl ⟨rfl, ?yqU1_5⟩) (by assumption) ?_
        case yqU1_5 => (intro w hSw; (try dsimp only at hSw); go_simp; first | done | with_reducible rfl)
        simp only [List.getElem_toArray, List.getElem_cons_succ, List.getElem_cons_zero, Act.put, List.setIfInBounds_toArray, List.set_cons_zero, List.set_cons_succ]
        refine wpAnyH_take (i := 6) (v := ?vqU1_6) rfl (by kernel_rfl) (by kernel_rfl) (by kernel_rfl) (fun _ _ _ h => h) (Or.inl ⟨rfl, ?yqU1_6⟩) (by assumption) ?_
        case yqU1_6 => (intro w hSw; (try dsimp only at hSw); go_simp; first | done | with_reducible rfl)
        simp only [List.getElem_toArray, List.getElem_cons_succ, List.getElem_cons_zero, Act.put, List.setIfInBounds_toArray, List.set_cons_zero, List.set_cons_succ]
        refine wpAnyH_take (i := 7) (v := ?vqU1_7) rfl (by kernel_rfl) (by kernel_rfl) (by kernel_rfl) (fun _ _ _ h => h) (Or.inl ⟨rfl, ?yqU1_7⟩) (by assumption) ?_
        case yqU1_7 => (intro w hSw; (try dsimp only at hSw); go_simp; first | done | with_reducible rfl)
        simp only [List.getElem_toArray, List.getElem_cons_succ, List.getElem_cons_zero, Act.put, List.setIfInBounds_toArray, List.set_cons_zero, List.set_cons_succ]
        refine wpAnyH_ready (rs := [3]) (by kernel_rfl) (by simp) ?_
        refine AllReadyH.cons rfl (fun K hK => ?_) AllReadyH.nil
        go_simp
        refine (hca1.out _).mono ?_
        rintro e w5 ⟨rfl, hb5⟩
        go_wp2_with fail
        refine hK.out _ _ ?_ (fun hHeld => ?_)
        · exact ⟨cell_step (hHeld.1) hb5, cell_step (hHeld.2.1) hb5, cell_step (hHeld.2.2.1) hb5, cell_step (hHeld.2.2.2.1) hb5, cell_step (hHeld.2.2.2.2.1) hb5, cell_step (hHeld.2.2.2.2.2.1) hb5, cell_step (hHeld.2.2.2.2.2.2.1) hb5, (hHeld.2.2.2.2.2.2.2).step hb5⟩
        clear hK K
        try simp only [List.getElem_toArray, List.getElem_cons_succ, List.getElem_cons_zero, Act.put, List.setIfInBounds_toArray, List.set_cons_zero, List.set_cons_succ]
        refine wpAnyH_ready (rs := [8]) (by kernel_rfl) (by simp) ?_
        refine AllReadyH.cons rfl (fun K hK => ?_) AllReadyH.nil
        go_simp
        refine (hst1.out _).mono ?_
        rintro e w6 ⟨rfl, hb6⟩
        go_wp2_with fail
        refine hK.out _ _ ?_ (fun hHeld => ?_)
        · exact ⟨cell_step (hHeld.1) hb6, cell_step (hHeld.2.1) hb6, cell_step (hHeld.2.2.1) hb6, cell_step (hHeld.2.2.2.1) hb6, cell_step (hHeld.2.2.2.2.1) hb6, cell_step (hHeld.2.2.2.2.2.1) hb6, cell_step (hHeld.2.2.2.2.2.2.1) hb6, (hHeld.2.2.2.2.2.2.2).step hb6⟩
        clear hK K
        try simp only [List.getElem_toArray, List.getElem_cons_succ, List.getElem_cons_zero, Act.put, List.setIfInBounds_toArray, List.set_cons_zero, List.set_cons_succ]
        refine wpAnyH_take (i := 9) (v := ?vqU1_9) rfl (by kernel_rfl) (by kernel_rfl) (by kernel_rfl) (fun _ _ _ h => h) (Or.inl ⟨rfl, ?yqU1_9⟩) (by assumption) ?_
        case yqU1_9 => (intro w hSw; (try dsimp only at hSw); go_simp; first | done | with_reducible rfl)
        simp only [List.getElem_toArray, List.getElem_cons_succ, List.getElem_cons_zero, Act.put, List.setIfInBounds_toArray, List.set_cons_zero, List.set_cons_succ]
        refine wpAnyH_take (i := 10) (v := ?vqU1_10) rfl (by kernel_rfl) (by kernel_rfl) (by kernel_rfl) (fun _ _ _ h => h) (Or.inl ⟨rfl, ?yqU1_10⟩) (by assumption) ?_
        case yqU1_10 => (intro w hSw; (try dsimp only at hSw); go_simp; first | done | with_reducible rfl)
        simp only [List.getElem_toArray, List.getElem_cons_succ, List.getElem_cons_zero, Act.put, List.setIfInBounds_toArray, List.set_cons_zero, List.set_cons_succ]
        refine wpAnyH_done (by kernel_rfl) ?_ _
        obtain ⟨q0', q1', q2', r0', r1', r2', r3', hbw'⟩ := hHeld
        have hHn := Lib.hid (And.intro q0' (And.intro q1' (And.intro q2' (And.intro r0' (And.intro r1' (And.intro r2' (And.intro r3' hbw')))))))
        clear q0' q1' q2' r0' r1' r2' r3' hbw' q0 q1 q2 r0 r1 r2 r3 hbw
        by_cases hk00 : k = 0
        · have hnx : Hid (BA (k + 1) = ((k : Int), P1)) := Lib.hid (by rw [hk00, hb1st.out, ← hP1, hk00]; rfl)
          have hbk : Hid ((BA k).1 = -1) := Lib.hid (by rw [hk00, hb0.out])
          obtain ⟨v1, hv1⟩ : ∃ v1, (BA k).1 = v1 := ⟨_, rfl⟩
          have hv1n : v1 < 0 := by rw [← hv1, hbk.out]; decide
          have g3 : decide (v1 < 0) = true := decide_eq_true hv1n
          rw [hv1]
          replace hk00 := Lib.hid hk00
          replace hv1 := Lib.hid hv1
          generalize (BA k).2 = v2 at *
          go_wp2
          go_roundw
          case rel => exact ⟨k + 1, by omega, by go_num, by rw [hnx.out], by rw [hnx.out], hHn.out⟩
          case measure => simp [intOf]; omega
        · have hbx := hbnx.out k (by omega)
          have hbp : 0 ≤ (BA k).1 := by
            have := hbpos.out (k - 1)
            rwa [show k - 1 + 1 = k by omega] at this
          rw [hP1] at hbx
          obtain ⟨v1, hv1⟩ : ∃ v1, (BA k).1 = v1 := ⟨_, rfl⟩
          obtain ⟨v2, hv2⟩ : ∃ v2, (BA k).2 = v2 := ⟨_, rfl⟩
          rw [hv1] at hbp
          rw [hv2] at hbx
          have g3 : decide (v1 < 0) = false := decide_eq_false (by omega)
          rw [hv1, hv2]
          have hBk : Hid (BA k = (v1, v2)) := Lib.hid (by rw [← hv1, ← hv2])
          replace hk00 := Lib.hid hk00
          replace hv1 := Lib.hid hv1
          replace hv2 := Lib.hid hv2
          by_cases hlp : P1 < v2
          · have hnx : Hid (BA (k + 1) = ((k : Int), P1)) := Lib.hid (by rw [hbx, if_pos hlp])
            have g4 : decide (P1 < v2) = true := decide_eq_true hlp
            replace hbx := Lib.hid hbx
            go_wp2
            go_roundw
            case rel => exact ⟨k + 1, by omega, by go_num, by rw [hnx.out], by rw [hnx.out], hHn.out⟩
            case measure => simp [intOf]; omega
          · have hnx : Hid (BA (k + 1) = (v1, v2)) := Lib.hid (by rw [hbx, if_neg hlp, hBk.out])
            have g4 : decide (P1 < v2) = false := decide_eq_false hlp
            replace hbx := Lib.hid hbx
            go_wp2
            go_roundw
            case rel => exact ⟨k + 1, by omega, by go_num, by rw [hnx.out], by rw [hnx.out], hHn.out⟩
            case measure => simp [intOf]; omega
      · obtain rfl : k = N + 1 := by omega
        have g1 : decide (((N + 1 : Nat) : Int) ≤ (N : Int)) = false := decide_eq_false (by omega)
        have g1' : decide ((N : Int) + 1 ≤ (N : Int)) = false := decide_eq_false (by omega)
        have g2 : decide (N + 1 ≤ N) = false := decide_eq_false hlt
        have hbp := hbpos.out N
        have hbN' := hbN.out
        obtain ⟨v1, hv1⟩ : ∃ v1, (BA (N + 1)).1 = v1 := ⟨_, rfl⟩
        obtain ⟨v2, hv2⟩ : ∃ v2, (BA (N + 1)).2 = v2 := ⟨_, rfl⟩
        rw [hv1] at hbp hbN'
        rw [hv1, hv2] at hb
        rw [hv1, hv2]
        replace hv1 := Lib.hid hv1
        replace hv2 := Lib.hid hv2
        have hw9 : IntKind.i64.wrap ((N : Int) - v1) = (N : Int) - v1 := IntWalk.i64_in _ (by omega)
        clear q0 q1 q2 r0 r1 r2 r3
        go_wp2
        refine bodyPost_ret (v := .tuple #[.int .i64 v1, .int .i64 ((N : Int) - v1), .int .i64 v2, .int .i64 0]) (by simp [results, Try.results27, go_sem]) rfl ?_
        exact ⟨ret13_4 hb.out, hbw⟩
  · have hb : Hid (r = (0, 0, 0, q)) := Lib.hid (by rw [hr.out, ccR, hq, if_neg h0])
    have g0 : (q == 0) = false := beq_eq_false_iff_ne.2 h0
    replace h0 := Lib.hid h0
    clear hq hr
    obtain ⟨F, L, E⟩ := c
    obtain ⟨a, b, s, p⟩ := x
    go_enter Try.func27, Try.ntmps27
    go_wp2_with fail
    refine (hc.out _).mono ?_
    rintro e w1 ⟨rfl, hb1⟩
    go_wp2
    refine bodyPost_ret (v := .tuple #[.int .i64 0, .int .i64 0, .int .i64 0, .int .i64 q]) (by simp [results, Try.results27, go_sem]) rfl ?_
    exact ⟨ret13_4 hb.out, (below_a2 _ _ _).step hb1⟩
theorem sten_step {c : CarbonD} {x : WaysD} {f n : Nat} : stenF c x (f + 1) n = if steV x (n : Int) < carV c x (n : Int) then some n else stenF c x f (n + 1) := rfl
set_option maxRecDepth 100000 in
set_option maxHeartbeats 3200000 in
theorem sf13_spec (c : CarbonD) (x : WaysD) (w : World) (hg : c.good) (hgx : x.good) :
    Calls Try.prog 29 #[.agg #[.int .i64 c.force, .int .i64 c.loss, .int .i64 c.least], .agg #[.int .i64 x.typing, .int .i64 x.sheet, .int .i64 x.stencil, .int .i64 x.pull]] w fun e w' => e = .returned (.tuple #[.int .i64 (sfR13 c x).1, .int .i64 (sfR13 c x).2]) ∧ Below w.heap.size w w' := by
  clear hg hgx
  generalize hr : sfR13 c x = r
  replace hr := Lib.hid hr.symm
  cases h1 : caB c with
  | false =>
    have hb : Hid (r = (0, 1)) := Lib.hid (by rw [hr.out, sfR13, h1]; rfl)
    have hc := Lib.hid (fun W => ok13 c h1 W)
    clear h1 hr
    obtain ⟨F, L, E⟩ := c
    obtain ⟨a, b, s, p⟩ := x
    go_enter Try.func29, Try.ntmps29
    go_wp2_with fail
    refine (hc.out _).mono ?_
    rintro e w1 ⟨rfl, hb1⟩
    go_wp2
    go_ret2
    exact ⟨ret8_2 hb.out, (below_a2 _ _ _).step hb1⟩
  | true =>
    have hc := Lib.hid (fun W => ok13 c h1 W)
    cases h2 : waB x with
    | false =>
      have hb : Hid (r = (0, 1)) := Lib.hid (by rw [hr.out, sfR13, h1, h2]; rfl)
      have hc2 := Lib.hid (fun W => ways13 x h2 W)
      clear h1 h2 hr
      obtain ⟨F, L, E⟩ := c
      obtain ⟨a, b, s, p⟩ := x
      go_enter Try.func29, Try.ntmps29
      go_wp2_with fail
      refine (hc.out _).mono ?_
      rintro e w1 ⟨rfl, hb1⟩
      obtain ⟨B3, B4⟩ := box43 w _ _ (.int .i64 F) (.int .i64 L) (.int .i64 E) (.int .i64 a) (.int .i64 b) (.int .i64 s) (.int .i64 p)
      obtain ⟨r0, r1, r2, r3⟩ := B4.step hb1
      clear B3 B4
      go_wp2_with fail
      refine (hc2.out _).mono ?_
      rintro e w2 ⟨rfl, hb2⟩
      go_wp2
      go_ret2
      exact ⟨ret8_2 hb.out, ((below_a2 _ _ _).step hb1).step hb2⟩
    | true =>
      have hc2 := Lib.hid (fun W => ways13 x h2 W)
      have hres : Hid (r = match stenF c x 500 1 with | some n => ((n : Int), 0) | none => (0, 3)) := Lib.hid (by rw [hr.out, sfR13, h1, h2]; rfl)
      have hca := Lib.hid (fun (k : Nat) (hk : k ≤ 500) W => carbon13 c x h1 h2 (k : Int) (by omega) (by omega) rfl W)
      have hst := Lib.hid (fun (k : Nat) (hk : k ≤ 500) W => ste13 x h2 (k : Int) (by omega) (by omega) rfl W)
      have hstep : Hid (∀ f n, stenF c x (f + 1) n = if steV x (n : Int) < carV c x (n : Int) then some n else stenF c x f (n + 1)) := Lib.hid (fun f n => sten_step)
      have hend : Hid (∀ n, stenF c x 0 n = none) := Lib.hid (fun n => rfl)
      clear h1 h2 hr
      generalize stenF c x = SF at *
      generalize carV c x = CV at *
      generalize steV x = SV at *
      obtain ⟨F, L, E⟩ := c
      obtain ⟨a, b, s, p⟩ := x
      simp only at hc hca hst hc2
      go_enter Try.func29, Try.ntmps29
      go_wp2_with fail
      refine (hc.out _).mono ?_
      rintro e w1 ⟨rfl, hb1⟩
      obtain ⟨B3, B4⟩ := box43 w _ _ (.int .i64 F) (.int .i64 L) (.int .i64 E) (.int .i64 a) (.int .i64 b) (.int .i64 s) (.int .i64 p)
      have B3' := B3.step hb1
      have B4' := B4.step hb1
      obtain ⟨r0, r1, r2, r3⟩ := B4'
      clear B3 B4
      go_wp2_with fail
      refine (hc2.out _).mono ?_
      rintro e w2 ⟨rfl, hb2⟩
      obtain ⟨q0, q1, q2⟩ := B3'.step hb2
      obtain ⟨r0, r1, r2, r3⟩ := (Box4.mk r0 r1 r2 r3).step hb2
      have hbe := Lib.hid (((below_a2 _ _ _).step hb1).step hb2)
      clear B3' hb1 hb2
      go_wp2
      go_loopw [6] (fun kk wr => ∃ k : Nat, 1 ≤ k ∧ k ≤ 501 ∧ kk = .int .i64 (k : Int) ∧ SF 500 1 = SF (501 - k) k ∧ (fun w' => w'.cell? ⟨w.heap.size, 0, none⟩ = some (.int .i64 F) ∧ w'.cell? ⟨w.heap.size, 1, none⟩ = some (.int .i64 L) ∧ w'.cell? ⟨w.heap.size, 2, none⟩ = some (.int .i64 E) ∧ w'.cell? ⟨w.heap.size + 1, 0, none⟩ = some (.int .i64 a) ∧ w'.cell? ⟨w.heap.size + 1, 1, none⟩ = some (.int .i64 b) ∧ w'.cell? ⟨w.heap.size + 1, 2, none⟩ = some (.int .i64 s) ∧ w'.cell? ⟨w.heap.size + 1, 3, none⟩ = some (.int .i64 p) ∧ Below w.heap.size w w') wr) (fun kk _ => 501 - (intOf kk).toNat)
      case atStart => exact ⟨1, by omega, by omega, rfl, rfl, q0, q1, q2, r0, r1, r2, r3, hbe.out⟩
      case round =>
        rename World => wr
        obtain ⟨k, hk1, hk, rfl, he, q0, q1, q2, r0, r1, r2, r3, hbw⟩ := hrel
        by_cases hlt : k ≤ 500
        · have hk0 : (0 : Int) ≤ (k : Int) := Int.natCast_nonneg _
          have g1 : decide ((k : Int) ≤ 500) = true := decide_eq_true (by omega)
          have g2 : decide (k ≤ 500) = true := decide_eq_true hlt
          have hca1 := Lib.hid (hca.out k hlt)
          have hst1 := Lib.hid (hst.out k hlt)
          obtain ⟨f, hf⟩ : ∃ f, 501 - k = f + 1 := ⟨500 - k, by omega⟩
          rw [hf, hstep.out f k] at he
          obtain ⟨C1, hC1⟩ : ∃ C1, CV (k : Int) = C1 := ⟨_, rfl⟩
          obtain ⟨S1, hS1⟩ : ∃ S1, SV (k : Int) = S1 := ⟨_, rfl⟩
          rw [hC1] at hca1 he
          rw [hS1] at hst1 he
          have hwk : IntKind.i64.wrap ((k : Int) + 1) = ((k + 1 : Nat) : Int) := by rw [IntWalk.i64_in _ (by omega)]; omega
          by_cases hlp : S1 < C1
          · have hgd : Hid (r = ((k : Int), 0)) := Lib.hid (by rw [hres.out, he, if_pos hlp])
            have g3 : decide (S1 < C1) = true := decide_eq_true hlp
            replace he := Lib.hid he
            go_wp2_with fail
            refine wp_region_held_drew (S := fun w' => w'.cell? ⟨w.heap.size, 0, none⟩ = some (.int .i64 F) ∧ w'.cell? ⟨w.heap.size, 1, none⟩ = some (.int .i64 L) ∧ w'.cell? ⟨w.heap.size, 2, none⟩ = some (.int .i64 E) ∧ w'.cell? ⟨w.heap.size + 1, 0, none⟩ = some (.int .i64 a) ∧ w'.cell? ⟨w.heap.size + 1, 1, none⟩ = some (.int .i64 b) ∧ w'.cell? ⟨w.heap.size + 1, 2, none⟩ = some (.int .i64 s) ∧ w'.cell? ⟨w.heap.size + 1, 3, none⟩ = some (.int .i64 p) ∧ Below w.heap.size w w') (by kernel_rfl) ?_ (fun hHeld => ?_)
            · exact ⟨cell_step (q0) ((Below.refl _ wr).drew), cell_step (q1) ((Below.refl _ wr).drew), cell_step (q2) ((Below.refl _ wr).drew), cell_step (r0) ((Below.refl _ wr).drew), cell_step (r1) ((Below.refl _ wr).drew), cell_step (r2) ((Below.refl _ wr).drew), cell_step (r3) ((Below.refl _ wr).drew), hbw.drew⟩
            refine wpAnyH_take (i := 0) (v := ?vrU2_0) rfl (by kernel_rfl) (by kernel_rfl) (by kernel_rfl) (fun _ _ _ h => h) (Or.inl ⟨rfl, ?yrU2_0⟩) (by assumption) ?_
            case yrU2_0 => (intro w hSw; (try dsimp only at hSw); go_simp; first | done | with_reducible rfl)
            simp only [List.getElem_toArray, List.getElem_cons_succ, List.getElem_cons_zero, Act.put, List.setIfInBounds_toArray, List.set_cons_zero, List.set_cons_succ]
            refine wpAnyH_take (i := 1) (v := ?vrU2_1) rfl (by kernel_rfl) (by kernel_rfl) (by kernel_rfl) (fun _ _ _ h => h) (Or.inl ⟨rfl, ?yrU2_1⟩) (by assumption) ?_
            case yrU2_1 => (intro w hSw; (try dsimp only at hSw); go_simp; first | done | with_reducible rfl)
            simp only [List.getElem_toArray, List.getElem_cons_succ, List.getElem_cons_zero, Act.put, List.setIfInBounds_toArray, List.set_cons_zero, List.set_cons_succ]
            refine wpAnyH_take (i := 3) (v := ?vrU2_3) rfl (by kernel_rfl) (by kernel_rfl) (by kernel_rfl) (fun _ _ _ h => h) (Or.inl ⟨rfl, ?yrU2_3⟩) (by assumption) ?_
            case yrU2_3 => (intro w hSw; (try dsimp only at hSw); go_simp; first | done | with_reducible rfl)
            simp only [List.getElem_toArray, List.getElem_cons_succ, List.getElem_cons_zero, Act.put, List.setIfInBounds_toArray, List.set_cons_zero, List.set_cons_succ]
            refine wpAnyH_take (i := 4) (v := ?vrU2_4) rfl (by kernel_rfl) (by kernel_rfl) (by kernel_rfl) (fun _ _ _ h => h) (Or.inl ⟨rfl, ?yrU2_4⟩) (by assumption) ?_
            case yrU2_4 => (intro w hSw; (try dsimp only at hSw); go_simp; first | done | with_reducible rfl)
            simp only [List.getElem_toArray, List.getElem_cons_succ, List.getElem_cons_zero, Act.put, List.setIfInBounds_toArray, List.set_cons_zero, List.set_cons_succ]
            refine wpAnyH_take (i := 5) (v := ?vrU2_5) rfl (by kernel_rfl) (by kernel_rfl) (by kernel_rfl) (fun _ _ _ h => h) (Or.inl ⟨rfl, ?yrU2_5⟩) (by assumption) ?_
            case yrU2_5 => (intro w hSw; (try dsimp only at hSw); go_simp; first | done | with_reducible rfl)
            simp only [List.getElem_toArray, List.getElem_cons_succ, List.getElem_cons_zero, Act.put, List.setIfInBounds_toArray, List.set_cons_zero, List.set_cons_succ]
            refine wpAnyH_ready (rs := [2]) (by kernel_rfl) (by simp) ?_
            refine AllReadyH.cons rfl (fun K hK => ?_) AllReadyH.nil
            go_simp
            refine (hst1.out _).mono ?_
            rintro e w5 ⟨rfl, hb5⟩
            go_wp2_with fail
            refine hK.out _ _ ?_ (fun hHeld => ?_)
            · exact ⟨cell_step (hHeld.1) hb5, cell_step (hHeld.2.1) hb5, cell_step (hHeld.2.2.1) hb5, cell_step (hHeld.2.2.2.1) hb5, cell_step (hHeld.2.2.2.2.1) hb5, cell_step (hHeld.2.2.2.2.2.1) hb5, cell_step (hHeld.2.2.2.2.2.2.1) hb5, (hHeld.2.2.2.2.2.2.2).step hb5⟩
            clear hK K
            try simp only [List.getElem_toArray, List.getElem_cons_succ, List.getElem_cons_zero, Act.put, List.setIfInBounds_toArray, List.set_cons_zero, List.set_cons_succ]
            refine wpAnyH_ready (rs := [6]) (by kernel_rfl) (by simp) ?_
            refine AllReadyH.cons rfl (fun K hK => ?_) AllReadyH.nil
            go_simp
            refine (hca1.out _).mono ?_
            rintro e w6 ⟨rfl, hb6⟩
            go_wp2_with fail
            refine hK.out _ _ ?_ (fun hHeld => ?_)
            · exact ⟨cell_step (hHeld.1) hb6, cell_step (hHeld.2.1) hb6, cell_step (hHeld.2.2.1) hb6, cell_step (hHeld.2.2.2.1) hb6, cell_step (hHeld.2.2.2.2.1) hb6, cell_step (hHeld.2.2.2.2.2.1) hb6, cell_step (hHeld.2.2.2.2.2.2.1) hb6, (hHeld.2.2.2.2.2.2.2).step hb6⟩
            clear hK K
            try simp only [List.getElem_toArray, List.getElem_cons_succ, List.getElem_cons_zero, Act.put, List.setIfInBounds_toArray, List.set_cons_zero, List.set_cons_succ]
            refine wpAnyH_take (i := 7) (v := ?vrU2_7) rfl (by kernel_rfl) (by kernel_rfl) (by kernel_rfl) (fun _ _ _ h => h) (Or.inl ⟨rfl, ?yrU2_7⟩) (by assumption) ?_
            case yrU2_7 => (intro w hSw; (try dsimp only at hSw); go_simp; first | done | with_reducible rfl)
            simp only [List.getElem_toArray, List.getElem_cons_succ, List.getElem_cons_zero, Act.put, List.setIfInBounds_toArray, List.set_cons_zero, List.set_cons_succ]
            refine wpAnyH_done (by kernel_rfl) ?_ _
            have hbf := Lib.hid (hHeld.2.2.2.2.2.2.2)
            clear hHeld q0 q1 q2 r0 r1 r2 r3
            go_wp2
            go_ret2
            exact ⟨ret8_2 hgd.out, hbf.out⟩
          · have hnx : Hid (SF 500 1 = SF (501 - (k + 1)) (k + 1)) := Lib.hid (by rw [he, if_neg hlp, show 501 - (k + 1) = f by omega])
            have g3 : decide (S1 < C1) = false := decide_eq_false hlp
            replace he := Lib.hid he
            go_wp2_with fail
            refine wp_region_held_drew (S := fun w' => w'.cell? ⟨w.heap.size, 0, none⟩ = some (.int .i64 F) ∧ w'.cell? ⟨w.heap.size, 1, none⟩ = some (.int .i64 L) ∧ w'.cell? ⟨w.heap.size, 2, none⟩ = some (.int .i64 E) ∧ w'.cell? ⟨w.heap.size + 1, 0, none⟩ = some (.int .i64 a) ∧ w'.cell? ⟨w.heap.size + 1, 1, none⟩ = some (.int .i64 b) ∧ w'.cell? ⟨w.heap.size + 1, 2, none⟩ = some (.int .i64 s) ∧ w'.cell? ⟨w.heap.size + 1, 3, none⟩ = some (.int .i64 p) ∧ Below w.heap.size w w') (by kernel_rfl) ?_ (fun hHeld => ?_)
            · exact ⟨cell_step (q0) ((Below.refl _ wr).drew), cell_step (q1) ((Below.refl _ wr).drew), cell_step (q2) ((Below.refl _ wr).drew), cell_step (r0) ((Below.refl _ wr).drew), cell_step (r1) ((Below.refl _ wr).drew), cell_step (r2) ((Below.refl _ wr).drew), cell_step (r3) ((Below.refl _ wr).drew), hbw.drew⟩
            refine wpAnyH_take (i := 0) (v := ?vsU3_0) rfl (by kernel_rfl) (by kernel_rfl) (by kernel_rfl) (fun _ _ _ h => h) (Or.inl ⟨rfl, ?ysU3_0⟩) (by assumption) ?_
            case ysU3_0 => (intro w hSw; (try dsimp only at hSw); go_simp; first | done | with_reducible rfl)
            simp only [List.getElem_toArray, List.getElem_cons_succ, List.getElem_cons_zero, Act.put, List.setIfInBounds_toArray, List.set_cons_zero, List.set_cons_succ]
            refine wpAnyH_take (i := 1) (v := ?vsU3_1) rfl (by kernel_rfl) (by kernel_rfl) (by kernel_rfl) (fun _ _ _ h => h) (Or.inl ⟨rfl, ?ysU3_1⟩) (by assumption) ?_
            case ysU3_1 => (intro w hSw; (try dsimp only at hSw); go_simp; first | done | with_reducible rfl)
            simp only [List.getElem_toArray, List.getElem_cons_succ, List.getElem_cons_zero, Act.put, List.setIfInBounds_toArray, List.set_cons_zero, List.set_cons_succ]
            refine wpAnyH_take (i := 3) (v := ?vsU3_3) rfl (by kernel_rfl) (by kernel_rfl) (by kernel_rfl) (fun _ _ _ h => h) (Or.inl ⟨rfl, ?ysU3_3⟩) (by assumption) ?_
            case ysU3_3 => (intro w hSw; (try dsimp only at hSw); go_simp; first | done | with_reducible rfl)
            simp only [List.getElem_toArray, List.getElem_cons_succ, List.getElem_cons_zero, Act.put, List.setIfInBounds_toArray, List.set_cons_zero, List.set_cons_succ]
            refine wpAnyH_take (i := 4) (v := ?vsU3_4) rfl (by kernel_rfl) (by kernel_rfl) (by kernel_rfl) (fun _ _ _ h => h) (Or.inl ⟨rfl, ?ysU3_4⟩) (by assumption) ?_
            case ysU3_4 => (intro w hSw; (try dsimp only at hSw); go_simp; first | done | with_reducible rfl)
            simp only [List.getElem_toArray, List.getElem_cons_succ, List.getElem_cons_zero, Act.put, List.setIfInBounds_toArray, List.set_cons_zero, List.set_cons_succ]
            refine wpAnyH_take (i := 5) (v := ?vsU3_5) rfl (by kernel_rfl) (by kernel_rfl) (by kernel_rfl) (fun _ _ _ h => h) (Or.inl ⟨rfl, ?ysU3_5⟩) (by assumption) ?_
            case ysU3_5 => (intro w hSw; (try dsimp only at hSw); go_simp; first | done | with_reducible rfl)
            simp only [List.getElem_toArray, List.getElem_cons_succ, List.getElem_cons_zero, Act.put, List.setIfInBounds_toArray, List.set_cons_zero, List.set_cons_succ]
            refine wpAnyH_ready (rs := [2]) (by kernel_rfl) (by simp) ?_
            refine AllReadyH.cons rfl (fun K hK => ?_) AllReadyH.nil
            go_simp
            refine (hst1.out _).mono ?_
            rintro e w5 ⟨rfl, hb5⟩
            go_wp2_with fail
            refine hK.out _ _ ?_ (fun hHeld => ?_)
            · exact ⟨cell_step (hHeld.1) hb5, cell_step (hHeld.2.1) hb5, cell_step (hHeld.2.2.1) hb5, cell_step (hHeld.2.2.2.1) hb5, cell_step (hHeld.2.2.2.2.1) hb5, cell_step (hHeld.2.2.2.2.2.1) hb5, cell_step (hHeld.2.2.2.2.2.2.1) hb5, (hHeld.2.2.2.2.2.2.2).step hb5⟩
            clear hK K
            try simp only [List.getElem_toArray, List.getElem_cons_succ, List.getElem_cons_zero, Act.put, List.setIfInBounds_toArray, List.set_cons_zero, List.set_cons_succ]
            refine wpAnyH_ready (rs := [6]) (by kernel_rfl) (by simp) ?_
            refine AllReadyH.cons rfl (fun K hK => ?_) AllReadyH.nil
            go_simp
            refine (hca1.out _).mono ?_
            rintro e w6 ⟨rfl, hb6⟩
            go_wp2_with fail
            refine hK.out _ _ ?_ (fun hHeld => ?_)
            · exact ⟨cell_step (hHeld.1) hb6, cell_step (hHeld.2.1) hb6, cell_step (hHeld.2.2.1) hb6, cell_step (hHeld.2.2.2.1) hb6, cell_step (hHeld.2.2.2.2.1) hb6, cell_step (hHeld.2.2.2.2.2.1) hb6, cell_step (hHeld.2.2.2.2.2.2.1) hb6, (hHeld.2.2.2.2.2.2.2).step hb6⟩
            clear hK K
            try simp only [List.getElem_toArray, List.getElem_cons_succ, List.getElem_cons_zero, Act.put, List.setIfInBounds_toArray, List.set_cons_zero, List.set_cons_succ]
            refine wpAnyH_take (i := 7) (v := ?vsU3_7) rfl (by kernel_rfl) (by kernel_rfl) (by kernel_rfl) (fun _ _ _ h => h) (Or.inl ⟨rfl, ?ysU3_7⟩) (by assumption) ?_
            case ysU3_7 => (intro w hSw; (try dsimp only at hSw); go_simp; first | done | with_reducible rfl)
            simp only [List.getElem_toArray, List.getElem_cons_succ, List.getElem_cons_zero, Act.put, List.setIfInBounds_toArray, List.set_cons_zero, List.set_cons_succ]
            refine wpAnyH_done (by kernel_rfl) ?_ _
            have hHn := Lib.hid hHeld
            clear hHeld q0 q1 q2 r0 r1 r2 r3
            go_wp2
            go_roundw
            case rel => exact ⟨k + 1, by omega, by omega, by go_num, hnx.out, hHn.out⟩
            case measure => simp [intOf]; omega
        · obtain rfl : k = 501 := by omega
          simp only [show ((501 : Nat) : Int) = 501 from rfl]
          have hgd : Hid (r = (0, 3)) := Lib.hid (by rw [hres.out, he, show 501 - 501 = 0 from rfl, hend.out])
          replace he := Lib.hid he
          clear q0 q1 q2 r0 r1 r2 r3
          go_wp2
          go_ret2
          exact ⟨ret8_2 hgd.out, hbw⟩
end Go.Proofs.Ytomnnhmhmehdjab
