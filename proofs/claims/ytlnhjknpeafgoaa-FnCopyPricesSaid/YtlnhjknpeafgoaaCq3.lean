/- Copies: the program's prices; CarbonPrice, StencilFrom. -/
import Derived.Test.YtlnhjknpeafgoaaCq2
namespace Go.Proofs.Ytlnhjknpeafgoaa
open Go.RowKit Go.ChangeShapes Go.WideShapes Go.Deep
set_option linter.unusedVariables false
set_option linter.unusedSimpArgs false

set_option maxRecDepth 100000 in
set_option maxHeartbeats 1600000 in
theorem typed13i (c : CarbonD) (x : WaysD) (hok : caB c = true) (hox : waB x = true) (n : Int) (h0 : 0 ≤ n) (h1 : n ≤ 500) {t : Int} (ht : carV c x n = t) (w : World) :
    Calls Try.prog 29 #[.agg #[.int .i64 c.force, .int .i64 c.loss, .int .i64 c.least, .int .i64 x.typing, .int .i64 x.sheet, .int .i64 x.stencil, .int .i64 x.pull], .int .i64 n] w fun e w' => e = .returned (.int .i64 t) ∧ Below w.heap.size w w' := by
  obtain ⟨t0, t1⟩ := typV_range hok h0 h1
  obtain ⟨⟨m0, m1⟩, k0, k1⟩ := carV_range hok hox h0 h1
  have hty := Lib.hid (fun W => typ13i c hok n h0 h1 rfl W)
  unfold carV at ht
  generalize typV c n = y at *
  clear hok hox
  obtain ⟨F, L, E⟩ := c
  obtain ⟨a, b, s, p⟩ := x
  simp only at *
  have hw0 : IntKind.i64.wrap (n - y) = n - y := IntWalk.i64_in _ (by omega)
  obtain ⟨P, hP⟩ : ∃ P, y * a = P := ⟨_, rfl⟩
  obtain ⟨Q, hQ⟩ : ∃ Q, (n - y) * b = Q := ⟨_, rfl⟩
  rw [hP] at m0 m1 ht
  rw [hQ] at k0 k1 ht
  have hw1 : IntKind.i64.wrap (y * a) = P := by rw [hP]; exact IntWalk.i64_in _ (by omega)
  have hw2 : IntKind.i64.wrap ((n - y) * b) = Q := by rw [hQ]; exact IntWalk.i64_in _ (by omega)
  have hw3 : IntKind.i64.wrap (P + Q) = t := by rw [ht]; exact IntWalk.i64_in _ (by omega)
  replace hP := Lib.hid hP
  replace hQ := Lib.hid hQ
  replace ht := Lib.hid ht
  go_enter Try.func29, Try.ntmps29
  go_wp2_with fail
  refine (hty.out _).mono ?_
  rintro e w1 ⟨rfl, hb1⟩
  have hA := own_block hb1
  have q0 := own_cell hA (o := 0) rfl
  have q1 := own_cell hA (o := 1) rfl
  have q2 := own_cell hA (o := 2) rfl
  have q3 := own_cell hA (o := 3) rfl
  have q4 := own_cell hA (o := 4) rfl
  have q5 := own_cell hA (o := 5) rfl
  have q6 := own_cell hA (o := 6) rfl
  have hlt := own_lt hA
  clear hA
  go_wp2
  go_ret
  exact ⟨rfl, (below_a1 _ _).step hb1⟩
set_option maxHeartbeats 1600000 in
theorem pulled13i (c : CarbonD) (x : WaysD) (hox : waB x = true) (n : Int) (h0 : 0 ≤ n) (h1 : n ≤ 500) {t : Int} (ht : steV x n = t) (w : World) :
    Calls Try.prog 30 #[.agg #[.int .i64 c.force, .int .i64 c.loss, .int .i64 c.least, .int .i64 x.typing, .int .i64 x.sheet, .int .i64 x.stencil, .int .i64 x.pull], .int .i64 n] w fun e w' => e = .returned (.int .i64 t) ∧ Below w.heap.size w w' := by
  obtain ⟨m0, m1⟩ := steV_range hox h0 h1
  obtain ⟨_, _, ⟨s0, s1⟩, _⟩ := waB_iff.1 hox
  unfold steV at ht
  clear hox
  obtain ⟨F, L, E⟩ := c
  obtain ⟨a, b, s, p⟩ := x
  simp only at *
  by_cases hn : n = 0
  · have hr : Hid (t = 0) := Lib.hid (by rw [← ht, if_pos hn])
    subst hn
    clear ht
    go_enter Try.func30, Try.ntmps30
    go_wp2
    go_ret
    exact ⟨ret_i64 hr.out.symm, below_a1 _ _⟩
  · have g0 : (n == 0) = false := beq_eq_false_iff_ne.2 hn
    rw [if_neg hn] at ht
    obtain ⟨P, hP⟩ : ∃ P, n * p = P := ⟨_, rfl⟩
    rw [hP] at m0 m1 ht
    have hw1 : IntKind.i64.wrap (n * p) = P := by rw [hP]; exact IntWalk.i64_in _ (by omega)
    have hw2 : IntKind.i64.wrap (s + P) = t := by rw [ht]; exact IntWalk.i64_in _ (by omega)
    replace hP := Lib.hid hP
    replace ht := Lib.hid ht
    replace hn := Lib.hid hn
    go_enter Try.func30, Try.ntmps30
    go_wp2
    go_ret
    exact ⟨rfl, below_a1 _ _⟩
set_option maxRecDepth 100000 in
set_option maxHeartbeats 2400000 in
theorem cp13_impl (c : CarbonD) (x : WaysD) (n : Int) (w : World) (hg : c.good) (hgx : x.good) (hwf : (Lit.int .i64 n).wf = true) :
    Calls Try.prog 14 #[.agg #[.int .i64 c.force, .int .i64 c.loss, .int .i64 c.least], .agg #[.int .i64 x.typing, .int .i64 x.sheet, .int .i64 x.stencil, .int .i64 x.pull], .int .i64 n] w fun e w' => e = .returned (.tuple #[.int .i64 (cpR c x n).1, .int .i64 (cpR c x n).2]) ∧ Below w.heap.size w w' := by
  clear hg hgx hwf
  generalize hr : cpR c x n = r
  replace hr := Lib.hid hr.symm
  cases h1 : (caB c && waB x) with
  | false =>
    have hb : Hid (r = (0, 1)) := Lib.hid (by rw [hr.out, cpR, cpC, h1]; rfl)
    have hc := Lib.hid (fun W => open13i c x h1 W)
    clear h1 hr
    obtain ⟨F, L, E⟩ := c
    obtain ⟨a, b, s, p⟩ := x
    simp only [offV, offC, if_neg (show ¬ (false = true) from Bool.noConfusion)] at hc
    go_enter Try.func14, Try.ntmps14
    go_wp2_with fail
    refine (hc.out _).mono ?_
    rintro e w1 ⟨rfl, hb1⟩
    have hbw := (below_a2 _ _ _).step hb1
    clear hb1
    go_wp2
    go_ret2
    exact ⟨ret8_2 hb.out, hbw.alloc hbw.size _⟩
  | true =>
    have hc := Lib.hid (fun W => open13i c x h1 W)
    cases h2 : inR n 0 500 with
    | false =>
      have hb : Hid (r = (0, 2)) := Lib.hid (by rw [hr.out, cpR, cpC, h1, h2]; rfl)
      have hc2 := Lib.hid (fun W => many13i h2 W)
      clear h1 h2 hr
      obtain ⟨F, L, E⟩ := c
      obtain ⟨a, b, s, p⟩ := x
      simp only [offV, offC, if_true] at hc
      go_enter Try.func14, Try.ntmps14
      go_wp2_with fail
      refine (hc.out _).mono ?_
      rintro e w1 ⟨rfl, hb1⟩
      have hbw := (below_a2 _ _ _).step hb1
      clear hb1
      go_wp2_with fail
      refine (hc2.out _).mono ?_
      rintro e w2 ⟨rfl, rfl⟩
      go_wp2
      go_ret2
      exact ⟨ret8_2 hb.out, hbw.alloc hbw.size _⟩
    | true =>
      have hb : Hid (r = (carV c x n, 0)) := Lib.hid (by rw [hr.out, cpR, cpC, h1, h2]; rfl)
      have h12 := h1
      simp only [Bool.and_eq_true] at h12
      obtain ⟨n0, n1⟩ := inR_iff.1 h2
      have hc2 := Lib.hid (fun W => many13i h2 W)
      have hty := Lib.hid (fun W => typed13i c x h12.1 h12.2 n n0 n1 rfl W)
      generalize carV c x n = t at *
      clear h1 h2 h12 hr
      obtain ⟨F, L, E⟩ := c
      obtain ⟨a, b, s, p⟩ := x
      simp only [offV, offC, if_true] at hc
      go_enter Try.func14, Try.ntmps14
      go_wp2_with fail
      refine (hc.out _).mono ?_
      rintro e w1 ⟨rfl, hb1⟩
      have hbw := (below_a2 _ _ _).step hb1
      clear hb1
      go_wp2_with fail
      refine (hc2.out _).mono ?_
      rintro e w2 ⟨rfl, rfl⟩
      go_wp2_with fail
      refine (hty.out _).mono ?_
      rintro e w2 ⟨rfl, hb2⟩
      go_wp2
      go_ret2
      exact ⟨ret8_2 hb.out, (hbw.alloc hbw.size _).step hb2⟩
set_option maxRecDepth 100000 in
set_option maxHeartbeats 3200000 in
theorem sf13_impl (c : CarbonD) (x : WaysD) (w : World) (hg : c.good) (hgx : x.good) :
    Calls Try.prog 15 #[.agg #[.int .i64 c.force, .int .i64 c.loss, .int .i64 c.least], .agg #[.int .i64 x.typing, .int .i64 x.sheet, .int .i64 x.stencil, .int .i64 x.pull]] w fun e w' => e = .returned (.tuple #[.int .i64 (sfR13 c x).1, .int .i64 (sfR13 c x).2]) ∧ Below w.heap.size w w' := by
  clear hg hgx
  generalize hr : sfR13 c x = r
  replace hr := Lib.hid hr.symm
  cases h1 : (caB c && waB x) with
  | false =>
    have hb : Hid (r = (0, 1)) := Lib.hid (by rw [hr.out, sfR13, h1]; rfl)
    have hc := Lib.hid (fun W => open13i c x h1 W)
    clear h1 hr
    obtain ⟨F, L, E⟩ := c
    obtain ⟨a, b, s, p⟩ := x
    simp only [offV, offC, if_neg (show ¬ (false = true) from Bool.noConfusion)] at hc
    go_enter Try.func15, Try.ntmps15
    go_wp2_with fail
    refine (hc.out _).mono ?_
    rintro e w1 ⟨rfl, hb1⟩
    have hbw := (below_a2 _ _ _).step hb1
    clear hb1
    go_wp2
    go_ret2
    exact ⟨ret8_2 hb.out, hbw.alloc hbw.size _⟩
  | true =>
    have h12 := h1
    simp only [Bool.and_eq_true] at h12
    have hc := Lib.hid (fun W => open13i c x h1 W)
    have hres : Hid (r = (match stenF c x 500 1 with | some n => ((n : Int), 0) | none => (0, 3))) := Lib.hid (by rw [hr.out, sfR13, if_pos h1]; rfl)
    have hca := Lib.hid (fun (k : Nat) (hk : k ≤ 500) W => typed13i c x h12.1 h12.2 (k : Int) (by omega) (by omega) rfl W)
    have hst := Lib.hid (fun (k : Nat) (hk : k ≤ 500) W => pulled13i c x h12.2 (k : Int) (by omega) (by omega) rfl W)
    have hsf : Hid (∀ f n : Nat, stenF c x (f + 1) n = if steV x (n : Int) < carV c x (n : Int) then some n else stenF c x f (n + 1)) := Lib.hid (fun f n => rfl)
    have hend : Hid (∀ n : Nat, stenF c x 0 n = none) := Lib.hid (fun n => rfl)
    clear h1 h12 hr
    generalize stenF c x = SF at *
    generalize carV c x = CV at *
    generalize steV x = SV at *
    obtain ⟨F, L, E⟩ := c
    obtain ⟨a, b, s, p⟩ := x
    simp only [offV, offC, if_true] at hc
    simp only at hca hst
    go_enter Try.func15, Try.ntmps15
    go_wp2_with fail
    refine (hc.out _).mono ?_
    rintro e w1 ⟨rfl, hb1⟩
    have hbw0 := (below_a2 _ _ _).step hb1
    clear hb1
    go_wp2
    go_loopw [4, 5, 8] (fun _ _ kk wr => ∃ k : Nat, 1 ≤ k ∧ k ≤ 501 ∧ kk = .int .i64 (k : Int) ∧ SF 500 1 = SF (501 - k) k ∧ (fun w' => Below w.heap.size w w' ∧ w'.cell? ⟨w1.heap.size, 0, none⟩ = some (.int .i64 F) ∧ w'.cell? ⟨w1.heap.size, 1, none⟩ = some (.int .i64 L) ∧ w'.cell? ⟨w1.heap.size, 2, none⟩ = some (.int .i64 E) ∧ w'.cell? ⟨w1.heap.size, 3, none⟩ = some (.int .i64 a) ∧ w'.cell? ⟨w1.heap.size, 4, none⟩ = some (.int .i64 b) ∧ w'.cell? ⟨w1.heap.size, 5, none⟩ = some (.int .i64 s) ∧ w'.cell? ⟨w1.heap.size, 6, none⟩ = some (.int .i64 p)) wr) (fun _ _ kk _ => 502 - (intOf kk).toNat)
    case atStart => exact ⟨1, by omega, by omega, rfl, rfl, hbw0.alloc hbw0.size _, (by apply cell_new <;> rfl), (by apply cell_new <;> rfl), (by apply cell_new <;> rfl), (by apply cell_new <;> rfl), (by apply cell_new <;> rfl), (by apply cell_new <;> rfl), (by apply cell_new <;> rfl)⟩
    case round =>
      rename World => wr
      obtain ⟨k, hk1, hk, rfl, he, hbw, q0, q1, q2, r0, r1, r2, r3⟩ := hrel
      by_cases hlt : k ≤ 500
      · have hkz : ((k : Int) ≤ 500) := by omega
        have g1 : decide ((k : Int) ≤ 500) = true := decide_eq_true hkz
        have hca1 := Lib.hid (hca.out k hlt)
        have hst1 := Lib.hid (hst.out k hlt)
        have hs1 := hsf.out (500 - k) k
        rw [show 500 - k + 1 = 501 - k by omega] at hs1
        have hwk : IntKind.i64.wrap ((k : Int) + 1) = ((k + 1 : Nat) : Int) := by rw [IntWalk.i64_in _ (by omega)]; omega
        generalize CV (k : Int) = C1 at *
        generalize SV (k : Int) = S1 at *
        replace he := Lib.hid he
        by_cases hlp : S1 < C1
        · have g3 : decide (S1 < C1) = true := decide_eq_true hlp
          have hgd : Hid (r = ((k : Int), 0)) := Lib.hid (by rw [hres.out, he.out, hs1, if_pos hlp])
          replace hs1 := Lib.hid hs1
          go_wp2_with fail
          refine wp_region_held_drew (S := fun w' => Below w.heap.size w w' ∧ w'.cell? ⟨w1.heap.size, 0, none⟩ = some (.int .i64 F) ∧ w'.cell? ⟨w1.heap.size, 1, none⟩ = some (.int .i64 L) ∧ w'.cell? ⟨w1.heap.size, 2, none⟩ = some (.int .i64 E) ∧ w'.cell? ⟨w1.heap.size, 3, none⟩ = some (.int .i64 a) ∧ w'.cell? ⟨w1.heap.size, 4, none⟩ = some (.int .i64 b) ∧ w'.cell? ⟨w1.heap.size, 5, none⟩ = some (.int .i64 s) ∧ w'.cell? ⟨w1.heap.size, 6, none⟩ = some (.int .i64 p)) (by kernel_rfl) ?_ (fun hHeld => ?_)
          · exact ⟨hbw.drew, cell_step q0 ((Below.refl _ wr).drew), cell_step q1 ((Below.refl _ wr).drew), cell_step q2 ((Below.refl _ wr).drew), cell_step r0 ((Below.refl _ wr).drew), cell_step r1 ((Below.refl _ wr).drew), cell_step r2 ((Below.refl _ wr).drew), cell_step r3 ((Below.refl _ wr).drew)⟩
          refine wpAnyH_take (i := 0) (v := ?vaU1_0) rfl (by kernel_rfl) (by kernel_rfl) (by kernel_rfl) (fun _ _ _ h => h) (Or.inl ⟨rfl, ?yaU1_0⟩) (by assumption) ?_
          case yaU1_0 => (intro w hSw; (try dsimp only at hSw); go_simp; first | done | with_reducible rfl)
          simp only [List.getElem_toArray, List.getElem_cons_succ, List.getElem_cons_zero, Act.put, List.setIfInBounds_toArray, List.set_cons_zero, List.set_cons_succ]
          refine wpAnyH_take (i := 1) (v := ?vaU1_1) rfl (by kernel_rfl) (by kernel_rfl) (by kernel_rfl) (fun _ _ _ h => h) (Or.inl ⟨rfl, ?yaU1_1⟩) (by assumption) ?_
          case yaU1_1 => (intro w hSw; (try dsimp only at hSw); go_simp; first | done | with_reducible rfl)
          simp only [List.getElem_toArray, List.getElem_cons_succ, List.getElem_cons_zero, Act.put, List.setIfInBounds_toArray, List.set_cons_zero, List.set_cons_succ]
          refine wpAnyH_take (i := 3) (v := ?vaU1_3) rfl (by kernel_rfl) (by kernel_rfl) (by kernel_rfl) (fun _ _ _ h => h) (Or.inl ⟨rfl, ?yaU1_3⟩) (by assumption) ?_
          case yaU1_3 => (intro w hSw; (try dsimp only at hSw); go_simp; first | done | with_reducible rfl)
          simp only [List.getElem_toArray, List.getElem_cons_succ, List.getElem_cons_zero, Act.put, List.setIfInBounds_toArray, List.set_cons_zero, List.set_cons_succ]
          refine wpAnyH_take (i := 4) (v := ?vaU1_4) rfl (by kernel_rfl) (by kernel_rfl) (by kernel_rfl) (fun _ _ _ h => h) (Or.inl ⟨rfl, ?yaU1_4⟩) (by assumption) ?_
          case yaU1_4 => (intro w hSw; (try dsimp only at hSw); go_simp; first | done | with_reducible rfl)
          simp only [List.getElem_toArray, List.getElem_cons_succ, List.getElem_cons_zero, Act.put, List.setIfInBounds_toArray, List.set_cons_zero, List.set_cons_succ]
          refine wpAnyH_ready (rs := [2]) (by kernel_rfl) (by simp) ?_
          refine AllReadyH.cons rfl (fun K hK => ?_) AllReadyH.nil
          go_simp
          refine (hst1.out _).mono ?_
          rintro e w5 ⟨rfl, hb5⟩
          go_wp2_with fail
          refine hK.out _ _ ?_ (fun hHeld => ?_)
          · exact ⟨hHeld.1.step hb5, cell_step hHeld.2.1 hb5, cell_step hHeld.2.2.1 hb5, cell_step hHeld.2.2.2.1 hb5, cell_step hHeld.2.2.2.2.1 hb5, cell_step hHeld.2.2.2.2.2.1 hb5, cell_step hHeld.2.2.2.2.2.2.1 hb5, cell_step hHeld.2.2.2.2.2.2.2 hb5⟩
          clear hK K
          try simp only [List.getElem_toArray, List.getElem_cons_succ, List.getElem_cons_zero, Act.put, List.setIfInBounds_toArray, List.set_cons_zero, List.set_cons_succ]
          refine wpAnyH_ready (rs := [5]) (by kernel_rfl) (by simp) ?_
          refine AllReadyH.cons rfl (fun K hK => ?_) AllReadyH.nil
          go_simp
          refine (hca1.out _).mono ?_
          rintro e w6 ⟨rfl, hb6⟩
          go_wp2_with fail
          refine hK.out _ _ ?_ (fun hHeld => ?_)
          · exact ⟨hHeld.1.step hb6, cell_step hHeld.2.1 hb6, cell_step hHeld.2.2.1 hb6, cell_step hHeld.2.2.2.1 hb6, cell_step hHeld.2.2.2.2.1 hb6, cell_step hHeld.2.2.2.2.2.1 hb6, cell_step hHeld.2.2.2.2.2.2.1 hb6, cell_step hHeld.2.2.2.2.2.2.2 hb6⟩
          clear hK K
          try simp only [List.getElem_toArray, List.getElem_cons_succ, List.getElem_cons_zero, Act.put, List.setIfInBounds_toArray, List.set_cons_zero, List.set_cons_succ]
          refine wpAnyH_take (i := 6) (v := ?vaU1_6) rfl (by kernel_rfl) (by kernel_rfl) (by kernel_rfl) (fun _ _ _ h => h) (Or.inl ⟨rfl, ?yaU1_6⟩) (by assumption) ?_
          case yaU1_6 => (intro w hSw; (try dsimp only at hSw); go_simp; first | done | with_reducible rfl)
          simp only [List.getElem_toArray, List.getElem_cons_succ, List.getElem_cons_zero, Act.put, List.setIfInBounds_toArray, List.set_cons_zero, List.set_cons_succ]
          refine wpAnyH_done (by kernel_rfl) ?_ _
          have hbf := Lib.hid hHeld.1
          clear hHeld hbw q0 q1 q2 r0 r1 r2 r3
          go_wp2
          go_ret2
          exact ⟨ret8_2 hgd.out, hbf.out⟩
        · have g3 : decide (S1 < C1) = false := decide_eq_false hlp
          have hnx : Hid (SF 500 1 = SF (501 - (k + 1)) (k + 1)) := Lib.hid (by rw [he.out, hs1, if_neg hlp, show 501 - (k + 1) = 500 - k by omega])
          replace hs1 := Lib.hid hs1
          go_wp2_with fail
          refine wp_region_held_drew (S := fun w' => Below w.heap.size w w' ∧ w'.cell? ⟨w1.heap.size, 0, none⟩ = some (.int .i64 F) ∧ w'.cell? ⟨w1.heap.size, 1, none⟩ = some (.int .i64 L) ∧ w'.cell? ⟨w1.heap.size, 2, none⟩ = some (.int .i64 E) ∧ w'.cell? ⟨w1.heap.size, 3, none⟩ = some (.int .i64 a) ∧ w'.cell? ⟨w1.heap.size, 4, none⟩ = some (.int .i64 b) ∧ w'.cell? ⟨w1.heap.size, 5, none⟩ = some (.int .i64 s) ∧ w'.cell? ⟨w1.heap.size, 6, none⟩ = some (.int .i64 p)) (by kernel_rfl) ?_ (fun hHeld => ?_)
          · exact ⟨hbw.drew, cell_step q0 ((Below.refl _ wr).drew), cell_step q1 ((Below.refl _ wr).drew), cell_step q2 ((Below.refl _ wr).drew), cell_step r0 ((Below.refl _ wr).drew), cell_step r1 ((Below.refl _ wr).drew), cell_step r2 ((Below.refl _ wr).drew), cell_step r3 ((Below.refl _ wr).drew)⟩
          refine wpAnyH_take (i := 0) (v := ?vbU2_0) rfl (by kernel_rfl) (by kernel_rfl) (by kernel_rfl) (fun _ _ _ h => h) (Or.inl ⟨rfl, ?ybU2_0⟩) (by assumption) ?_
          case ybU2_0 => (intro w hSw; (try dsimp only at hSw); go_simp; first | done | with_reducible rfl)
          simp only [List.getElem_toArray, List.getElem_cons_succ, List.getElem_cons_zero, Act.put, List.setIfInBounds_toArray, List.set_cons_zero, List.set_cons_succ]
          refine wpAnyH_take (i := 1) (v := ?vbU2_1) rfl (by kernel_rfl) (by kernel_rfl) (by kernel_rfl) (fun _ _ _ h => h) (Or.inl ⟨rfl, ?ybU2_1⟩) (by assumption) ?_
          case ybU2_1 => (intro w hSw; (try dsimp only at hSw); go_simp; first | done | with_reducible rfl)
          simp only [List.getElem_toArray, List.getElem_cons_succ, List.getElem_cons_zero, Act.put, List.setIfInBounds_toArray, List.set_cons_zero, List.set_cons_succ]
          refine wpAnyH_take (i := 3) (v := ?vbU2_3) rfl (by kernel_rfl) (by kernel_rfl) (by kernel_rfl) (fun _ _ _ h => h) (Or.inl ⟨rfl, ?ybU2_3⟩) (by assumption) ?_
          case ybU2_3 => (intro w hSw; (try dsimp only at hSw); go_simp; first | done | with_reducible rfl)
          simp only [List.getElem_toArray, List.getElem_cons_succ, List.getElem_cons_zero, Act.put, List.setIfInBounds_toArray, List.set_cons_zero, List.set_cons_succ]
          refine wpAnyH_take (i := 4) (v := ?vbU2_4) rfl (by kernel_rfl) (by kernel_rfl) (by kernel_rfl) (fun _ _ _ h => h) (Or.inl ⟨rfl, ?ybU2_4⟩) (by assumption) ?_
          case ybU2_4 => (intro w hSw; (try dsimp only at hSw); go_simp; first | done | with_reducible rfl)
          simp only [List.getElem_toArray, List.getElem_cons_succ, List.getElem_cons_zero, Act.put, List.setIfInBounds_toArray, List.set_cons_zero, List.set_cons_succ]
          refine wpAnyH_ready (rs := [2]) (by kernel_rfl) (by simp) ?_
          refine AllReadyH.cons rfl (fun K hK => ?_) AllReadyH.nil
          go_simp
          refine (hst1.out _).mono ?_
          rintro e w5 ⟨rfl, hb5⟩
          go_wp2_with fail
          refine hK.out _ _ ?_ (fun hHeld => ?_)
          · exact ⟨hHeld.1.step hb5, cell_step hHeld.2.1 hb5, cell_step hHeld.2.2.1 hb5, cell_step hHeld.2.2.2.1 hb5, cell_step hHeld.2.2.2.2.1 hb5, cell_step hHeld.2.2.2.2.2.1 hb5, cell_step hHeld.2.2.2.2.2.2.1 hb5, cell_step hHeld.2.2.2.2.2.2.2 hb5⟩
          clear hK K
          try simp only [List.getElem_toArray, List.getElem_cons_succ, List.getElem_cons_zero, Act.put, List.setIfInBounds_toArray, List.set_cons_zero, List.set_cons_succ]
          refine wpAnyH_ready (rs := [5]) (by kernel_rfl) (by simp) ?_
          refine AllReadyH.cons rfl (fun K hK => ?_) AllReadyH.nil
          go_simp
          refine (hca1.out _).mono ?_
          rintro e w6 ⟨rfl, hb6⟩
          go_wp2_with fail
          refine hK.out _ _ ?_ (fun hHeld => ?_)
          · exact ⟨hHeld.1.step hb6, cell_step hHeld.2.1 hb6, cell_step hHeld.2.2.1 hb6, cell_step hHeld.2.2.2.1 hb6, cell_step hHeld.2.2.2.2.1 hb6, cell_step hHeld.2.2.2.2.2.1 hb6, cell_step hHeld.2.2.2.2.2.2.1 hb6, cell_step hHeld.2.2.2.2.2.2.2 hb6⟩
          clear hK K
          try simp only [List.getElem_toArray, List.getElem_cons_succ, List.getElem_cons_zero, Act.put, List.setIfInBounds_toArray, List.set_cons_zero, List.set_cons_succ]
          refine wpAnyH_take (i := 6) (v := ?vbU2_6) rfl (by kernel_rfl) (by kernel_rfl) (by kernel_rfl) (fun _ _ _ h => h) (Or.inl ⟨rfl, ?ybU2_6⟩) (by assumption) ?_
          case ybU2_6 => (intro w hSw; (try dsimp only at hSw); go_simp; first | done | with_reducible rfl)
          simp only [List.getElem_toArray, List.getElem_cons_succ, List.getElem_cons_zero, Act.put, List.setIfInBounds_toArray, List.set_cons_zero, List.set_cons_succ]
          refine wpAnyH_done (by kernel_rfl) ?_ _
          have hHn := Lib.hid hHeld
          clear hHeld hbw q0 q1 q2 r0 r1 r2 r3
          go_wp2
          go_roundw
          case rel => exact ⟨k + 1, by omega, by omega, by go_num, hnx.out, hHn.out⟩
          case measure => simp [intOf]; omega
      · obtain rfl : k = 501 := by omega
        simp only [show ((501 : Nat) : Int) = 501 from rfl]
        have hgd : Hid (r = (0, 3)) := Lib.hid (by rw [hres.out, he, show 501 - 501 = 0 from rfl, hend.out])
        replace he := Lib.hid he
        clear q0 q1 q2 r0 r1 r2 r3
        go_wp2
        go_ret2
        exact ⟨ret8_2 hgd.out, hbw⟩
end Go.Proofs.Ytlnhjknpeafgoaa
