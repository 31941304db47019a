/- Copies: the model's typings, prices, the cheapest way. -/
import Derived.Test.YtomnnhmhmehdjabCp2
namespace Go.Proofs.Ytomnnhmhmehdjab
open Go.RowKit Go.ChangeShapes Go.WideShapes Go.Deep
set_option linter.unusedVariables false
set_option linter.unusedSimpArgs false

theorem good13 (c : CarbonD) (hok : caB c = true) {g : Int} (hg : goodV c = g) (w : World) :
    Calls Try.prog 47 #[.agg #[.int .i64 c.force, .int .i64 c.loss, .int .i64 c.least]] w fun e w' => e = .returned (.int .i64 g) ∧ Below w.heap.size w w' := by
  obtain ⟨_, _, q0, q1⟩ := goodV_range hok
  obtain ⟨⟨a0, a1⟩, ⟨b0, b1⟩, d0, d1⟩ := caB_iff.1 hok
  unfold goodV at hg
  obtain ⟨F, L, E⟩ := c
  simp only at *
  obtain ⟨Q, hQ⟩ : ∃ Q, (F - E).tdiv L = Q := ⟨_, rfl⟩
  rw [hQ] at q0 q1 hg
  have hw1 : IntKind.i64.wrap (F - E) = F - E := IntWalk.i64_in _ (by omega)
  have hz : (L == 0) = false := beq_eq_false_iff_ne.2 (by omega)
  have hz2 : ¬ L = 0 := by omega
  have hw2 : IntKind.i64.wrap Q = Q := IntWalk.i64_in _ (by omega)
  have hw3 : IntKind.i64.wrap (Q + 1) = Q + 1 := IntWalk.i64_in _ (by omega)
  have hmn := Lib.hid (fun W => min13 12 (Q + 1) hg W)
  clear hok
  go_enter Try.func47, Try.ntmps47
  go_wp2_with fail
  refine (hmn.out _).mono ?_
  rintro e w1 ⟨rfl, rfl⟩
  go_wp2
  go_ret
  exact ⟨rfl, below_a1 _ _⟩
theorem gc13_spec (c : CarbonD) (w : World) (hg : c.good) :
    Calls Try.prog 19 #[.agg #[.int .i64 c.force, .int .i64 c.loss, .int .i64 c.least]] w fun e w' => e = .returned (.tuple #[.int .i64 (gcR c).1, .int .i64 (gcR c).2]) ∧ Below w.heap.size w w' := by
  clear hg
  generalize hr : gcR c = r
  replace hr := Lib.hid hr.symm
  have hc := Lib.hid (fun v h W => ok13 c (v := v) h W)
  cases h1 : caB c with
  | false =>
    have hb : Hid (r = (0, 1)) := Lib.hid (by rw [hr.out, gcR, h1]; rfl)
    have hc1 := Lib.hid (fun W => hc.out _ h1 W)
    clear h1 hr hc
    obtain ⟨F, L, E⟩ := c
    go_enter Try.func19, Try.ntmps19
    go_wp2_with fail
    refine (hc1.out _).mono ?_
    rintro e w1 ⟨rfl, hb1⟩
    go_wp2
    go_ret2
    exact ⟨ret8_2 hb.out, (below_a1 _ _).step hb1⟩
  | true =>
    have hb : Hid (r = (goodV c, 0)) := Lib.hid (by rw [hr.out, gcR, if_pos h1])
    have hc1 := Lib.hid (fun W => hc.out _ h1 W)
    have hgd := Lib.hid (fun W => good13 c h1 rfl W)
    generalize goodV c = g at *
    clear h1 hr hc
    obtain ⟨F, L, E⟩ := c
    go_enter Try.func19, Try.ntmps19
    go_wp2_with fail
    refine (hc1.out _).mono ?_
    rintro e w1 ⟨rfl, hb1⟩
    obtain ⟨q0, q1, q2⟩ := (Box3.new w _ (.int .i64 F) (.int .i64 L) (.int .i64 E)).step hb1
    go_wp2_with fail
    refine (hgd.out _).mono ?_
    rintro e w2 ⟨rfl, hb2⟩
    go_wp2
    go_ret2
    exact ⟨ret8_2 hb.out, ((below_a1 _ _).step hb1).step hb2⟩
set_option maxHeartbeats 1600000 in
theorem ff13_spec (c : CarbonD) (n : Int) (w : World) (hg : c.good) (hwf : (Lit.int .i64 n).wf = true) :
    Calls Try.prog 21 #[.agg #[.int .i64 c.force, .int .i64 c.loss, .int .i64 c.least], .int .i64 n] w fun e w' => e = .returned (.tuple #[.int .i64 (ffR c n).1, .int .i64 (ffR c n).2]) ∧ Below w.heap.size w w' := by
  clear hg hwf
  generalize hr : ffR c n = r
  replace hr := Lib.hid hr.symm
  cases h1 : caB c with
  | false =>
    have hb : Hid (r = (0, 1)) := Lib.hid (by rw [hr.out, ffR, h1]; rfl)
    have hc := Lib.hid (fun W => ok13 c h1 W)
    clear h1 hr
    obtain ⟨F, L, E⟩ := c
    go_enter Try.func21, Try.ntmps21
    go_wp2_with fail
    refine (hc.out _).mono ?_
    rintro e w1 ⟨rfl, hb1⟩
    go_wp2
    go_ret2
    exact ⟨ret8_2 hb.out, (below_a1 _ _).step hb1⟩
  | true =>
    have hc := Lib.hid (fun W => ok13 c h1 W)
    cases h2 : inR n 1 12 with
    | false =>
      have hb : Hid (r = (0, 2)) := Lib.hid (by rw [hr.out, ffR, h1, h2]; rfl)
      have hc2 := Lib.hid (fun W => in8_spec h2 W)
      clear h1 h2 hr
      obtain ⟨F, L, E⟩ := c
      go_enter Try.func21, Try.ntmps21
      go_wp2_with fail
      refine (hc.out _).mono ?_
      rintro e w1 ⟨rfl, hb1⟩
      go_wp2_with fail
      refine (hc2.out _).mono ?_
      rintro e w2 ⟨rfl, rfl⟩
      go_wp2
      go_ret2
      exact ⟨ret8_2 hb.out, (below_a1 _ _).step hb1⟩
    | true =>
      have hc2 := Lib.hid (fun W => in8_spec h2 W)
      obtain ⟨⟨a0, a1⟩, ⟨b0, b1⟩, d0, d1⟩ := caB_iff.1 h1
      obtain ⟨s0, s1⟩ := inR_iff.1 h2
      have hm := mul_in (a := n - 1) (b := c.loss) (A := 11) (B := 1000) (by omega) (by omega) (by omega) b1
      have hres : Hid (r = if 1000 < c.least + (n - 1) * c.loss then (0, 5) else (c.least + (n - 1) * c.loss, 0)) := Lib.hid (by rw [hr.out, ffR, h1, h2, if_pos rfl, if_pos rfl])
      clear h1 h2 hr
      obtain ⟨F, L, E⟩ := c
      simp only at *
      have hw0 : IntKind.i64.wrap (n - 1) = n - 1 := IntWalk.i64_in _ (by omega)
      obtain ⟨P, hP⟩ : ∃ P, (n - 1) * L = P := ⟨_, rfl⟩
      rw [hP] at hm hres
      have hw1 : IntKind.i64.wrap ((n - 1) * L) = P := by rw [hP]; exact IntWalk.i64_in _ (by omega)
      obtain ⟨Z, hZ⟩ : ∃ Z, E + P = Z := ⟨_, rfl⟩
      have hw2 : IntKind.i64.wrap (E + P) = Z := by rw [hZ]; exact IntWalk.i64_in _ (by omega)
      rw [hZ] at hres
      replace hP := Lib.hid hP
      replace hZ := Lib.hid hZ
      by_cases h5 : 1000 < Z
      · have hb : Hid (r = (0, 5)) := Lib.hid (by rw [hres.out, if_pos h5])
        have g1 : decide (1000 < Z) = true := decide_eq_true h5
        go_enter Try.func21, Try.ntmps21
        go_wp2_with fail
        refine (hc.out _).mono ?_
        rintro e w1 ⟨rfl, hb1⟩
        obtain ⟨q0, q1, q2⟩ := (Box3.new w _ (.int .i64 F) (.int .i64 L) (.int .i64 E)).step hb1
        go_wp2_with fail
        refine (hc2.out _).mono ?_
        rintro e w2 ⟨rfl, rfl⟩
        go_wp2
        go_ret2
        exact ⟨ret8_2 hb.out, (below_a1 _ _).step hb1⟩
      · have hb : Hid (r = (Z, 0)) := Lib.hid (by rw [hres.out, if_neg h5])
        have g1 : decide (1000 < Z) = false := decide_eq_false h5
        go_enter Try.func21, Try.ntmps21
        go_wp2_with fail
        refine (hc.out _).mono ?_
        rintro e w1 ⟨rfl, hb1⟩
        obtain ⟨q0, q1, q2⟩ := (Box3.new w _ (.int .i64 F) (.int .i64 L) (.int .i64 E)).step hb1
        go_wp2_with fail
        refine (hc2.out _).mono ?_
        rintro e w2 ⟨rfl, rfl⟩
        go_wp2
        go_ret2
        exact ⟨ret8_2 hb.out, (below_a1 _ _).step hb1⟩
theorem typ13 (c : CarbonD) (hok : caB c = true) (n : Int) (h0 : 0 ≤ n) (h1 : n ≤ 500) {t : Int} (ht : typV c n = t) (w : World) :
    Calls Try.prog 50 #[.agg #[.int .i64 c.force, .int .i64 c.loss, .int .i64 c.least], .int .i64 n] w fun e w' => e = .returned (.int .i64 t) ∧ Below w.heap.size w w' := by
  obtain ⟨g0, g1, _, _⟩ := goodV_range hok
  obtain ⟨t0, t1⟩ := typV_range hok h0 h1
  have hgd := Lib.hid (fun W => good13 c hok rfl W)
  rw [ht] at t0 t1
  unfold typV at ht
  generalize goodV c = g at *
  have hw1 : IntKind.i64.wrap (n + g) = n + g := IntWalk.i64_in _ (by omega)
  have hw2 : IntKind.i64.wrap (n + g - 1) = n + g - 1 := IntWalk.i64_in _ (by omega)
  have hz : (g == 0) = false := beq_eq_false_iff_ne.2 (by omega)
  have hz2 : ¬ g = 0 := by omega
  have hw3 : IntKind.i64.wrap t = t := IntWalk.i64_in _ (by omega)
  clear hok
  obtain ⟨F, L, E⟩ := c
  go_enter Try.func50, Try.ntmps50
  go_wp2_with fail
  refine (hgd.out _).mono ?_
  rintro e w1 ⟨rfl, hb1⟩
  go_wp2
  go_ret
  exact ⟨rfl, (below_a1 _ _).step hb1⟩
set_option maxHeartbeats 1600000 in
theorem tf13_spec (c : CarbonD) (n : Int) (w : World) (hg : c.good) (hwf : (Lit.int .i64 n).wf = true) :
    Calls Try.prog 23 #[.agg #[.int .i64 c.force, .int .i64 c.loss, .int .i64 c.least], .int .i64 n] w fun e w' => e = .returned (.tuple #[.int .i64 (tfR c n).1, .int .i64 (tfR c n).2]) ∧ Below w.heap.size w w' := by
  clear hg hwf
  generalize hr : tfR c n = r
  replace hr := Lib.hid hr.symm
  cases h1 : caB c with
  | false =>
    have hb : Hid (r = (0, 1)) := Lib.hid (by rw [hr.out, tfR, h1]; rfl)
    have hc := Lib.hid (fun W => ok13 c h1 W)
    clear h1 hr
    obtain ⟨F, L, E⟩ := c
    go_enter Try.func23, Try.ntmps23
    go_wp2_with fail
    refine (hc.out _).mono ?_
    rintro e w1 ⟨rfl, hb1⟩
    go_wp2
    go_ret2
    exact ⟨ret8_2 hb.out, (below_a1 _ _).step hb1⟩
  | true =>
    have hc := Lib.hid (fun W => ok13 c h1 W)
    cases h2 : inR n 0 500 with
    | false =>
      have hb : Hid (r = (0, 2)) := Lib.hid (by rw [hr.out, tfR, h1, h2]; rfl)
      have hc2 := Lib.hid (fun W => many13 h2 W)
      clear h1 h2 hr
      obtain ⟨F, L, E⟩ := c
      go_enter Try.func23, Try.ntmps23
      go_wp2_with fail
      refine (hc.out _).mono ?_
      rintro e w1 ⟨rfl, hb1⟩
      go_wp2_with fail
      refine (hc2.out _).mono ?_
      rintro e w2 ⟨rfl, rfl⟩
      go_wp2
      go_ret2
      exact ⟨ret8_2 hb.out, (below_a1 _ _).step hb1⟩
    | true =>
      have hc2 := Lib.hid (fun W => many13 h2 W)
      obtain ⟨s0, s1⟩ := inR_iff.1 h2
      have hb : Hid (r = (typV c n, 0)) := Lib.hid (by rw [hr.out, tfR, h1, h2, if_pos rfl, if_pos rfl])
      have hty := Lib.hid (fun W => typ13 c h1 n s0 s1 rfl W)
      generalize typV c n = t at *
      clear h1 h2 hr
      obtain ⟨F, L, E⟩ := c
      go_enter Try.func23, Try.ntmps23
      go_wp2_with fail
      refine (hc.out _).mono ?_
      rintro e w1 ⟨rfl, hb1⟩
      obtain ⟨q0, q1, q2⟩ := (Box3.new w _ (.int .i64 F) (.int .i64 L) (.int .i64 E)).step hb1
      go_wp2_with fail
      refine (hc2.out _).mono ?_
      rintro e w2 ⟨rfl, rfl⟩
      go_wp2_with fail
      refine (hty.out _).mono ?_
      rintro e w2 ⟨rfl, hb2⟩
      go_wp2
      go_ret2
      exact ⟨ret8_2 hb.out, ((below_a1 _ _).step hb1).step hb2⟩
theorem box43 (w : World) (T U : TypeId) (a b c d e f g : Value) : Box3 w.heap.size a b c ((w.alloc (.cells #[a, b, c] T)).alloc (.cells #[d, e, f, g] U)) ∧ Box4 (w.heap.size + 1) d e f g ((w.alloc (.cells #[a, b, c] T)).alloc (.cells #[d, e, f, g] U)) :=
  ⟨(Box3.new w T a b c).step (below_a1 _ _), by have := Box4.new (w.alloc (.cells #[a, b, c] T)) U d e f g; simpa using this⟩
set_option maxHeartbeats 1600000 in
theorem carbon13 (c : CarbonD) (x : WaysD) (hok : caB c = true) (hox : waB x = true) (n : Int) (h0 : 0 ≤ n) (h1 : n ≤ 500) {t : Int} (ht : carV c x n = t) (w : World) :
    Calls Try.prog 54 #[.agg #[.int .i64 c.force, .int .i64 c.loss, .int .i64 c.least], .agg #[.int .i64 x.typing, .int .i64 x.sheet, .int .i64 x.stencil, .int .i64 x.pull], .int .i64 n] w fun e w' => e = .returned (.int .i64 t) ∧ Below w.heap.size w w' := by
  obtain ⟨t0, t1⟩ := typV_range hok h0 h1
  obtain ⟨⟨m0, m1⟩, k0, k1⟩ := carV_range hok hox h0 h1
  have hty := Lib.hid (fun W => typ13 c hok n h0 h1 rfl W)
  unfold carV at ht
  generalize typV c n = y at *
  clear hok hox
  obtain ⟨F, L, E⟩ := c
  obtain ⟨a, b, s, p⟩ := x
  simp only at *
  have hw0 : IntKind.i64.wrap (n - y) = n - y := IntWalk.i64_in _ (by omega)
  obtain ⟨P, hP⟩ : ∃ P, y * a = P := ⟨_, rfl⟩
  obtain ⟨Q, hQ⟩ : ∃ Q, (n - y) * b = Q := ⟨_, rfl⟩
  rw [hP] at m0 m1 ht
  rw [hQ] at k0 k1 ht
  have hw1 : IntKind.i64.wrap (y * a) = P := by rw [hP]; exact IntWalk.i64_in _ (by omega)
  have hw2 : IntKind.i64.wrap ((n - y) * b) = Q := by rw [hQ]; exact IntWalk.i64_in _ (by omega)
  have hw3 : IntKind.i64.wrap (P + Q) = t := by rw [ht]; exact IntWalk.i64_in _ (by omega)
  replace hP := Lib.hid hP
  replace hQ := Lib.hid hQ
  replace ht := Lib.hid ht
  go_enter Try.func54, Try.ntmps54
  go_wp2_with fail
  refine (hty.out _).mono ?_
  rintro e w1 ⟨rfl, hb1⟩
  obtain ⟨B3, B4⟩ := box43 w _ _ (.int .i64 F) (.int .i64 L) (.int .i64 E) (.int .i64 a) (.int .i64 b) (.int .i64 s) (.int .i64 p)
  obtain ⟨q0, q1, q2⟩ := B3.step hb1
  obtain ⟨r0, r1, r2, r3⟩ := B4.step hb1
  clear B3 B4
  go_wp2
  go_ret
  exact ⟨rfl, (below_a2 _ _ _).step hb1⟩
theorem code13 (c : CarbonD) (x : WaysD) (n : Int) {v : Int} (hv : cpC c x n = v) (w : World) :
    Calls Try.prog 53 #[.agg #[.int .i64 c.force, .int .i64 c.loss, .int .i64 c.least], .agg #[.int .i64 x.typing, .int .i64 x.sheet, .int .i64 x.stencil, .int .i64 x.pull], .int .i64 n] w fun e w' => e = .returned (.int .i64 v) ∧ Below w.heap.size w w' := by
  cases h1 : caB c with
  | false =>
    have hr : Hid (v = 1) := Lib.hid (by rw [← hv, cpC, h1]; rfl)
    have hc := Lib.hid (fun W => ok13 c h1 W)
    clear h1 hv
    obtain ⟨F, L, E⟩ := c
    obtain ⟨a, b, s, p⟩ := x
    go_enter Try.func53, Try.ntmps53
    go_wp2_with fail
    refine (hc.out _).mono ?_
    rintro e w1 ⟨rfl, hb1⟩
    go_wp2
    go_ret
    exact ⟨ret_i64 hr.out.symm, (below_a2 _ _ _).step hb1⟩
  | true =>
    have hc := Lib.hid (fun W => ok13 c h1 W)
    cases h2 : waB x with
    | false =>
      have hr : Hid (v = 1) := Lib.hid (by rw [← hv, cpC, h1, h2]; rfl)
      have hc2 := Lib.hid (fun W => ways13 x h2 W)
      clear h1 h2 hv
      obtain ⟨F, L, E⟩ := c
      obtain ⟨a, b, s, p⟩ := x
      go_enter Try.func53, Try.ntmps53
      go_wp2_with fail
      refine (hc.out _).mono ?_
      rintro e w1 ⟨rfl, hb1⟩
      obtain ⟨B3, B4⟩ := box43 w _ _ (.int .i64 F) (.int .i64 L) (.int .i64 E) (.int .i64 a) (.int .i64 b) (.int .i64 s) (.int .i64 p)
      obtain ⟨r0, r1, r2, r3⟩ := B4.step hb1
      clear B3 B4
      go_wp2_with fail
      refine (hc2.out _).mono ?_
      rintro e w2 ⟨rfl, hb2⟩
      go_wp2
      go_ret
      exact ⟨ret_i64 hr.out.symm, ((below_a2 _ _ _).step hb1).step hb2⟩
    | true =>
      have hc2 := Lib.hid (fun W => ways13 x h2 W)
      obtain ⟨u, h3⟩ : ∃ u, inR n 0 500 = u := ⟨_, rfl⟩
      have hr : Hid (v = if u = true then 0 else 2) := Lib.hid (by rw [← hv, cpC, h1, h2, h3]; rfl)
      have hc3 := Lib.hid (fun W => many13 h3 W)
      clear h1 h2 h3 hv
      obtain ⟨F, L, E⟩ := c
      obtain ⟨a, b, s, p⟩ := x
      cases u with
      | false =>
        go_enter Try.func53, Try.ntmps53
        go_wp2_with fail
        refine (hc.out _).mono ?_
        rintro e w1 ⟨rfl, hb1⟩
        obtain ⟨B3, B4⟩ := box43 w _ _ (.int .i64 F) (.int .i64 L) (.int .i64 E) (.int .i64 a) (.int .i64 b) (.int .i64 s) (.int .i64 p)
        obtain ⟨r0, r1, r2, r3⟩ := B4.step hb1
        clear B3 B4
        go_wp2_with fail
        refine (hc2.out _).mono ?_
        rintro e w2 ⟨rfl, hb2⟩
        go_wp2_with fail
        refine (hc3.out _).mono ?_
        rintro e w3 ⟨rfl, rfl⟩
        go_wp2
        go_ret
        exact ⟨ret_i64 hr.out.symm, ((below_a2 _ _ _).step hb1).step hb2⟩
      | true =>
        go_enter Try.func53, Try.ntmps53
        go_wp2_with fail
        refine (hc.out _).mono ?_
        rintro e w1 ⟨rfl, hb1⟩
        obtain ⟨B3, B4⟩ := box43 w _ _ (.int .i64 F) (.int .i64 L) (.int .i64 E) (.int .i64 a) (.int .i64 b) (.int .i64 s) (.int .i64 p)
        obtain ⟨r0, r1, r2, r3⟩ := B4.step hb1
        clear B3 B4
        go_wp2_with fail
        refine (hc2.out _).mono ?_
        rintro e w2 ⟨rfl, hb2⟩
        go_wp2_with fail
        refine (hc3.out _).mono ?_
        rintro e w3 ⟨rfl, rfl⟩
        go_wp2
        go_ret
        exact ⟨ret_i64 hr.out.symm, ((below_a2 _ _ _).step hb1).step hb2⟩
set_option maxHeartbeats 1600000 in
theorem cp13_spec (c : CarbonD) (x : WaysD) (n : Int) (w : World) (hg : c.good) (hgx : x.good) (hwf : (Lit.int .i64 n).wf = true) :
    Calls Try.prog 25 #[.agg #[.int .i64 c.force, .int .i64 c.loss, .int .i64 c.least], .agg #[.int .i64 x.typing, .int .i64 x.sheet, .int .i64 x.stencil, .int .i64 x.pull], .int .i64 n] w fun e w' => e = .returned (.tuple #[.int .i64 (cpR c x n).1, .int .i64 (cpR c x n).2]) ∧ Below w.heap.size w w' := by
  clear hg hgx hwf
  generalize hr : cpR c x n = r
  replace hr := Lib.hid hr.symm
  obtain ⟨q, hq⟩ : ∃ q, cpC c x n = q := ⟨_, rfl⟩
  have hc := Lib.hid (fun W => code13 c x n hq W)
  by_cases h0 : q = 0
  · subst h0
    obtain ⟨h1, h2, h3, h4⟩ := cpC_ok hq
    have hb : Hid (r = (carV c x n, 0)) := Lib.hid (by rw [hr.out, cpR, if_pos hq])
    have hca := Lib.hid (fun W => carbon13 c x h1 h2 n h3 h4 rfl W)
    generalize carV c x n = t at *
    clear hq h1 h2 hr
    obtain ⟨F, L, E⟩ := c
    obtain ⟨a, b, s, p⟩ := x
    go_enter Try.func25, Try.ntmps25
    go_wp2_with fail
    refine (hc.out _).mono ?_
    rintro e w1 ⟨rfl, hb1⟩
    obtain ⟨B3, B4⟩ := box43 w _ _ (.int .i64 F) (.int .i64 L) (.int .i64 E) (.int .i64 a) (.int .i64 b) (.int .i64 s) (.int .i64 p)
    obtain ⟨q0, q1, q2⟩ := B3.step hb1
    obtain ⟨r0, r1, r2, r3⟩ := B4.step hb1
    clear B3 B4
    go_wp2_with fail
    refine (hca.out _).mono ?_
    rintro e w2 ⟨rfl, hb2⟩
    go_wp2
    go_ret2
    exact ⟨ret8_2 hb.out, ((below_a2 _ _ _).step hb1).step hb2⟩
  · have hb : Hid (r = (0, q)) := Lib.hid (by rw [hr.out, cpR, hq, if_neg h0])
    have g0 : (q == 0) = false := beq_eq_false_iff_ne.2 h0
    replace h0 := Lib.hid h0
    clear hq hr
    obtain ⟨F, L, E⟩ := c
    obtain ⟨a, b, s, p⟩ := x
    go_enter Try.func25, Try.ntmps25
    go_wp2_with fail
    refine (hc.out _).mono ?_
    rintro e w1 ⟨rfl, hb1⟩
    go_wp2
    go_ret2
    exact ⟨ret8_2 hb.out, (below_a2 _ _ _).step hb1⟩
theorem ste13 (x : WaysD) (hox : waB x = true) (n : Int) (h0 : 0 ≤ n) (h1 : n ≤ 500) {t : Int} (ht : steV x n = t) (w : World) :
    Calls Try.prog 57 #[.agg #[.int .i64 x.typing, .int .i64 x.sheet, .int .i64 x.stencil, .int .i64 x.pull], .int .i64 n] w fun e w' => e = .returned (.int .i64 t) ∧ Below w.heap.size w w' := by
  obtain ⟨m0, m1⟩ := steV_range hox h0 h1
  obtain ⟨_, _, ⟨s0, s1⟩, _⟩ := waB_iff.1 hox
  unfold steV at ht
  clear hox
  obtain ⟨a, b, s, p⟩ := x
  simp only at *
  by_cases hn : n = 0
  · rw [if_pos hn] at ht
    have g1 : (n == 0) = true := beq_iff_eq.2 hn
    have htt := Lib.hid ht
    clear hn ht m0 m1
    go_enter Try.func57, Try.ntmps57
    go_wp2
    go_ret
    exact ⟨ret_i64 htt.out, below_a1 _ _⟩
  · rw [if_neg hn] at ht
    have g1 : (n == 0) = false := beq_eq_false_iff_ne.2 hn
    obtain ⟨P, hP⟩ : ∃ P, n * p = P := ⟨_, rfl⟩
    rw [hP] at m0 m1 ht
    have hw1 : IntKind.i64.wrap (n * p) = P := by rw [hP]; exact IntWalk.i64_in _ (by omega)
    have hw2 : IntKind.i64.wrap (s + P) = t := by rw [ht]; exact IntWalk.i64_in _ (by omega)
    replace hP := Lib.hid hP
    replace ht := Lib.hid ht
    clear hn
    go_enter Try.func57, Try.ntmps57
    go_wp2
    go_ret
    exact ⟨rfl, below_a1 _ _⟩
end Go.Proofs.Ytomnnhmhmehdjab
