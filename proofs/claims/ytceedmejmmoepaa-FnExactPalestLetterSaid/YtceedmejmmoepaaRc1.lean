/- Ribbons: the program's codes, spots, uses and shades. -/
import Derived.Test.YtceedmejmmoepaaRc0
import Derived.Test.YtceedmejmmoepaaRb4
namespace Go.Proofs.Ytceedmejmmoepaa
open Go.RowKit Go.ChangeShapes Go.WideShapes Go.Deep
set_option linter.unusedVariables false
set_option linter.unusedSimpArgs false

theorem ok14i (r : RibbonD) {v : Bool} (h : rbB r = v) (w : World) :
    Calls Try.prog 13 #[.agg #[.int .i64 r.spots, .int .i64 r.ink, .int .i64 r.takes]] w fun e w' => e = .returned (.bool v) ∧ Below w.heap.size w w' := by
  obtain ⟨spots, ink, takes⟩ := r
  cases h0 : inR spots 2 200 with
  | false =>
    have hres : Hid (v = false) := Lib.hid (by rw [← h]; simp [rbB, h0])
    clear h
    replace h0 := Lib.hid h0
    go_enter Try.func13, Try.ntmps13
    go_wp2_with fail
    refine (in8_impl h0.out _).mono ?_
    rintro e w' ⟨rfl, rfl⟩
    go_wp2
    go_ret
    exact ⟨ret_bo hres.out.symm, below_a1 _ _⟩
  | true =>
    cases h1 : inR ink 1 1000 with
    | false =>
      have hres : Hid (v = false) := Lib.hid (by rw [← h]; simp [rbB, h0, h1])
      clear h
      replace h0 := Lib.hid h0
      replace h1 := Lib.hid h1
      go_enter Try.func13, Try.ntmps13
      go_wp2_with fail
      refine (in8_impl h0.out _).mono ?_
      rintro e w' ⟨rfl, rfl⟩
      go_wp2_with fail
      refine (in8_impl h1.out _).mono ?_
      rintro e w' ⟨rfl, rfl⟩
      go_wp2
      go_ret
      exact ⟨ret_bo hres.out.symm, below_a1 _ _⟩
    | true =>
      cases h2 : inR takes 1 ink with
      | false =>
        have hres : Hid (v = false) := Lib.hid (by rw [← h]; simp [rbB, h0, h1, h2])
        clear h
        replace h0 := Lib.hid h0
        replace h1 := Lib.hid h1
        replace h2 := Lib.hid h2
        go_enter Try.func13, Try.ntmps13
        go_wp2_with fail
        refine (in8_impl h0.out _).mono ?_
        rintro e w' ⟨rfl, rfl⟩
        go_wp2_with fail
        refine (in8_impl h1.out _).mono ?_
        rintro e w' ⟨rfl, rfl⟩
        go_wp2_with fail
        refine (in8_impl h2.out _).mono ?_
        rintro e w' ⟨rfl, rfl⟩
        go_wp2
        go_ret
        exact ⟨ret_bo hres.out.symm, below_a1 _ _⟩
      | true =>
        have hres : Hid (v = true) := Lib.hid (by rw [← h]; simp [rbB, h0, h1, h2])
        clear h
        replace h0 := Lib.hid h0
        replace h1 := Lib.hid h1
        replace h2 := Lib.hid h2
        go_enter Try.func13, Try.ntmps13
        go_wp2_with fail
        refine (in8_impl h0.out _).mono ?_
        rintro e w' ⟨rfl, rfl⟩
        go_wp2_with fail
        refine (in8_impl h1.out _).mono ?_
        rintro e w' ⟨rfl, rfl⟩
        go_wp2_with fail
        refine (in8_impl h2.out _).mono ?_
        rintro e w' ⟨rfl, rfl⟩
        go_wp2
        go_ret
        exact ⟨ret_bo hres.out.symm, below_a1 _ _⟩
theorem vr14_impl (r : RibbonD) (w : World) (hg : r.good) :
    Calls Try.prog 13 #[.agg #[.int .i64 r.spots, .int .i64 r.ink, .int .i64 r.takes]] w fun e w' => e = .returned (.bool (rbB r)) ∧ Below w.heap.size w w' := ok14i r rfl w
theorem isu14i {n : Int} {v : Bool} (h : inR n 0 100000 = v) (w : World) :
    Calls Try.prog 51 #[.int .i64 n] w fun e w' => e = .returned (.bool v) ∧ w = w' := by
  have hc := Lib.hid (fun W => in8_impl h W)
  clear h
  go_enter Try.func51, Try.ntmps51
  go_wp2_with fail
  refine (hc.out _).mono ?_
  rintro e w1 ⟨rfl, rfl⟩
  go_wp2
  go_ret
  exact ⟨rfl, rfl⟩
theorem code14i (r : RibbonD) (n : Int) {v : Int} (h : rcC r n = v) (w : World) :
    Calls Try.prog 35 #[.agg #[.int .i64 r.spots, .int .i64 r.ink, .int .i64 r.takes], .int .i64 n] w fun e w' => e = .returned (.int .i64 v) ∧ Below w.heap.size w w' := by
  cases h1 : rbB r with
  | false =>
    have hres : Hid (1 = v) := Lib.hid (by rw [← h, rcC, h1]; rfl)
    have hc := Lib.hid (fun W => ok14i r h1 W)
    clear h h1
    obtain ⟨f0, f1, f2⟩ := r
    go_enter Try.func35, Try.ntmps35
    go_wp2_with fail
    refine (hc.out _).mono ?_
    rintro e w1 ⟨rfl, hb1⟩
    go_wp2
    go_ret
    exact ⟨ret_i64 hres.out, (below_a1 _ _).step hb1⟩
  | true =>
    have hc := Lib.hid (fun W => ok14i r h1 W)
    cases h2 : inR n 0 100000 with
    | false =>
      have hres : Hid (2 = v) := Lib.hid (by rw [← h, rcC, if_pos h1, h2]; rfl)
      clear h h1
      obtain ⟨f0, f1, f2⟩ := r
      replace h2 := Lib.hid h2
      go_enter Try.func35, Try.ntmps35
      go_wp2_with fail
      refine (hc.out _).mono ?_
      rintro e w1 ⟨rfl, hb1⟩
      go_wp2_with fail
      refine (isu14i h2.out _).mono ?_
      rintro e w2 ⟨rfl, rfl⟩
      go_wp2
      go_ret
      exact ⟨ret_i64 hres.out, (below_a1 _ _).step hb1⟩
    | true =>
      have hres : Hid (0 = v) := Lib.hid (by rw [← h, rcC, if_pos h1, h2]; rfl)
      clear h h1
      obtain ⟨f0, f1, f2⟩ := r
      replace h2 := Lib.hid h2
      go_enter Try.func35, Try.ntmps35
      go_wp2_with fail
      refine (hc.out _).mono ?_
      rintro e w1 ⟨rfl, hb1⟩
      go_wp2_with fail
      refine (isu14i h2.out _).mono ?_
      rintro e w2 ⟨rfl, rfl⟩
      go_wp2
      go_ret
      exact ⟨ret_i64 hres.out, (below_a1 _ _).step hb1⟩
theorem run14i (r : RibbonD) (hok : rbB r = true) {v : Int} (hv : r.spots - 1 = v) (w : World) :
    Calls Try.prog 42 #[.agg #[.int .i64 r.spots, .int .i64 r.ink, .int .i64 r.takes]] w fun e w' => e = .returned (.int .i64 v) ∧ Below w.heap.size w w' := by
  obtain ⟨⟨c0, c1⟩, _⟩ := rbB_iff.1 hok
  have hw1 : IntKind.i64.wrap (r.spots - 1) = v := by rw [IntWalk.i64_in _ (by omega)]; exact hv
  clear hok
  obtain ⟨S, I, K⟩ := r
  simp only at *
  replace hv := Lib.hid hv
  go_enter Try.func42, Try.ntmps42
  go_wp2
  go_ret
  exact ⟨rfl, below_a1 _ _⟩
theorem round14i (r : RibbonD) (hok : rbB r = true) {v : Int} (hv : turnV r = v) (w : World) :
    Calls Try.prog 52 #[.agg #[.int .i64 r.spots, .int .i64 r.ink, .int .i64 r.takes]] w fun e w' => e = .returned (.int .i64 v) ∧ Below w.heap.size w w' := by
  obtain ⟨⟨c0, c1⟩, _⟩ := rbB_iff.1 hok
  have hc := Lib.hid (fun W => run14i r hok rfl W)
  unfold turnV at hv
  obtain ⟨D, hD⟩ : ∃ D, r.spots - 1 = D := ⟨_, rfl⟩
  rw [hD] at hv hc
  have hw1 : IntKind.i64.wrap (2 * D) = v := by rw [IntWalk.i64_in _ (by omega)]; exact hv
  clear hok
  obtain ⟨S, I, K⟩ := r
  simp only at *
  replace hv := Lib.hid hv
  go_enter Try.func52, Try.ntmps52
  go_wp2_with fail
  refine (hc.out _).mono ?_
  rintro e w1 ⟨rfl, hb1⟩
  go_wp2
  go_ret
  exact ⟨rfl, (below_a1 _ _).step hb1⟩
theorem end14i (r : RibbonD) (hok : rbB r = true) (p : Int) {v : Bool} (hv : (decide (p = 0) || decide (p = r.spots - 1)) = v) (w : World) :
    Calls Try.prog 53 #[.agg #[.int .i64 r.spots, .int .i64 r.ink, .int .i64 r.takes], .int .i64 p] w fun e w' => e = .returned (.bool v) ∧ Below w.heap.size w w' := by
  have hc := Lib.hid (fun W => run14i r hok rfl W)
  generalize r.spots - 1 = D at *
  clear hok
  obtain ⟨S, I, K⟩ := r
  by_cases h1 : p = 0
  · have y1 : (p == 0) = true := beq_iff_eq.2 h1
    have hr : Hid (true = v) := Lib.hid (by rw [← hv, decide_eq_true h1]; rfl)
    clear hv h1
    go_enter Try.func53, Try.ntmps53
    go_wp2
    go_ret
    exact ⟨ret_bo hr.out, below_a1 _ _⟩
  · have y1 : (p == 0) = false := beq_eq_false_iff_ne.2 h1
    by_cases h2 : p = D
    · have y2 : (p == D) = true := beq_iff_eq.2 h2
      have hr : Hid (true = v) := Lib.hid (by rw [← hv, decide_eq_true h2, Bool.or_true])
      clear hv h1 h2
      go_enter Try.func53, Try.ntmps53
      go_wp2_with fail
      refine (hc.out _).mono ?_
      rintro e w1 ⟨rfl, hb1⟩
      go_wp2
      go_ret
      exact ⟨ret_bo hr.out, (below_a1 _ _).step hb1⟩
    · have y2 : (p == D) = false := beq_eq_false_iff_ne.2 h2
      have hr : Hid (false = v) := Lib.hid (by rw [← hv, decide_eq_false h1, decide_eq_false h2]; rfl)
      clear hv h1 h2
      go_enter Try.func53, Try.ntmps53
      go_wp2_with fail
      refine (hc.out _).mono ?_
      rintro e w1 ⟨rfl, hb1⟩
      go_wp2
      go_ret
      exact ⟨ret_bo hr.out, (below_a1 _ _).step hb1⟩
theorem spot14i (r : RibbonD) (hok : rbB r = true) (n : Int) (h0 : 0 ≤ n) (h1 : n ≤ 200000) {v : Int} (hv : spotV r n = v) (w : World) :
    Calls Try.prog 36 #[.agg #[.int .i64 r.spots, .int .i64 r.ink, .int .i64 r.takes], .int .i64 n] w fun e w' => e = .returned (.int .i64 v) ∧ Below w.heap.size w w' := by
  have hrd := Lib.hid (fun W => round14i r hok rfl W)
  obtain ⟨a0, a1⟩ := turnV_range hok
  obtain ⟨b0, b1⟩ := atV_range hok h0
  obtain ⟨⟨c0, c1⟩, _⟩ := rbB_iff.1 hok
  unfold spotV at hv
  have hT0 : turnV r = 2 * (r.spots - 1) := rfl
  generalize turnV r = T at *
  obtain ⟨S, I, K⟩ := r
  simp only at *
  clear hok
  have hz : (T == 0) = false := beq_eq_false_iff_ne.2 (by omega)
  have hz2 : ¬ T = 0 := by omega
  obtain ⟨Q, hQ⟩ : ∃ Q, n.tmod T = Q := ⟨_, rfl⟩
  rw [hQ] at hv b0 b1
  have hw3 : IntKind.i64.wrap Q = Q := IntWalk.i64_in _ (by omega)
  have hw4 : IntKind.i64.wrap (T - Q) = T - Q := IntWalk.i64_in _ (by omega)
  obtain ⟨D, hD⟩ : ∃ D, T - Q = D := ⟨_, rfl⟩
  have hmn : Hid (v = min Q D) := Lib.hid (by
    rw [← hv, ← hD]
    split <;> omega)
  rw [hD] at hw4
  clear hv
  have hsmall : Q ≤ 400 ∧ D ≤ 400 := by omega
  replace hT0 := Lib.hid hT0
  rcases Int.lt_trichotomy Q D with h2 | h2 | h2
  · have g1 : decide (Q < D) = true := decide_eq_true h2
    have g2 : decide (D < Q) = false := decide_eq_false (by omega)
    have g3 : decide (Q ≤ D) = true := decide_eq_true (by omega)
    have g4 : decide (D ≤ Q) = false := decide_eq_false (by omega)
    go_enter Try.func36, Try.ntmps36
    go_wp2_with fail
    refine (hrd.out _).mono ?_
    rintro e w1 ⟨rfl, hb1⟩
    obtain ⟨q0, q1, q2⟩ := (Box3r.new w _ (.int .i64 S) (.int .i64 I) (.int .i64 K)).step hb1
    go_wp2_with fail
    refine (hrd.out _).mono ?_
    rintro e w2 ⟨rfl, hb2⟩
    go_wp2
    go_ret
    exact ⟨by rw [hmn.out]; simp only [Int.min_def]; split <;> first | rfl | (exfalso; omega), ((below_a1 _ _).step hb1).step hb2⟩
  · subst h2
    go_enter Try.func36, Try.ntmps36
    go_wp2_with fail
    refine (hrd.out _).mono ?_
    rintro e w1 ⟨rfl, hb1⟩
    obtain ⟨q0, q1, q2⟩ := (Box3r.new w _ (.int .i64 S) (.int .i64 I) (.int .i64 K)).step hb1
    go_wp2_with fail
    refine (hrd.out _).mono ?_
    rintro e w2 ⟨rfl, hb2⟩
    go_wp2
    go_ret
    exact ⟨by rw [hmn.out]; simp, ((below_a1 _ _).step hb1).step hb2⟩
  · have g1 : decide (Q < D) = false := decide_eq_false (by omega)
    have g2 : decide (D < Q) = true := decide_eq_true h2
    have g3 : decide (Q ≤ D) = false := decide_eq_false (by omega)
    have g4 : decide (D ≤ Q) = true := decide_eq_true (by omega)
    go_enter Try.func36, Try.ntmps36
    go_wp2_with fail
    refine (hrd.out _).mono ?_
    rintro e w1 ⟨rfl, hb1⟩
    obtain ⟨q0, q1, q2⟩ := (Box3r.new w _ (.int .i64 S) (.int .i64 I) (.int .i64 K)).step hb1
    go_wp2_with fail
    refine (hrd.out _).mono ?_
    rintro e w2 ⟨rfl, hb2⟩
    go_wp2
    go_ret
    exact ⟨by rw [hmn.out]; simp only [Int.min_def]; split <;> first | rfl | (exfalso; omega), ((below_a1 _ _).step hb1).step hb2⟩
set_option maxRecDepth 100000 in
set_option maxHeartbeats 2400000 in
theorem uses14i (r : RibbonD) (hok : rbB r = true) (p n : Nat) (hp : p < r.spots.toNat) (hn : n ≤ 200000) {v : Int} (hv : (useN r.spots.toNat p n : Int) = v) (w : World) :
    Calls Try.prog 38 #[.agg #[.int .i64 r.spots, .int .i64 r.ink, .int .i64 r.takes], .int .i64 (p : Int), .int .i64 (n : Int)] w fun e w' => e = .returned (.int .i64 v) ∧ Below w.heap.size w w' := by
  have hrd := Lib.hid (fun W => round14i r hok rfl W)
  have hen := Lib.hid (fun v h W => end14i r hok (p : Int) (v := v) h W)
  obtain ⟨⟨c0, c1⟩, _⟩ := rbB_iff.1 hok
  have hT0 : turnV r = ((2 * (r.spots.toNat - 1) : Nat) : Int) := by unfold turnV; omega
  rw [hT0] at hrd
  rw [useN_there _ _ _ (by omega) hp] at hv
  obtain ⟨S, I, K⟩ := r
  simp only at *
  clear hok hT0
  obtain ⟨s, rfl⟩ : ∃ s : Nat, S = (s : Int) := ⟨S.toNat, by omega⟩
  rw [Int.toNat_natCast] at *
  have hend : (decide ((p : Int) = 0) || decide ((p : Int) = (s : Int) - 1)) = !(decide (0 < p ∧ p < s - 1)) := by
    by_cases h1 : p = 0
    · subst h1; simp
    · by_cases h2 : p = s - 1
      · rw [decide_eq_true (show ((p : Int) = (s : Int) - 1) by omega), decide_eq_false (show ¬ (0 < p ∧ p < s - 1) by omega)]; simp
      · rw [decide_eq_false (show ¬ ((p : Int) = 0) by omega), decide_eq_false (show ¬ ((p : Int) = (s : Int) - 1) by omega), decide_eq_true (show (0 < p ∧ p < s - 1) by omega)]; rfl
  replace hen := Lib.hid (fun W => hen.out _ hend W)
  have hT1 : 2 ≤ 2 * (s - 1) ∧ 2 * (s - 1) ≤ 398 ∧ p < 2 * (s - 1) := by omega
  obtain ⟨T, hT⟩ : ∃ T, 2 * (s - 1) = T := ⟨_, rfl⟩
  rw [hT] at hrd hv hT1
  replace hT := Lib.hid hT
  clear hend
  have hz : ((T : Int) == 0) = false := beq_eq_false_iff_ne.2 (by omega)
  have hz2 : ¬ (T : Int) = 0 := by omega
  have hz3 : ¬ T = 0 := by omega
  have hw1 : IntKind.i64.wrap ((n : Int) + (T : Int)) = ((n + T : Nat) : Int) := by rw [IntWalk.i64_in _ (by omega)]; omega
  have hw2 : IntKind.i64.wrap (((n + T : Nat) : Int) - 1) = ((n + T - 1 : Nat) : Int) := by rw [IntWalk.i64_in _ (by omega)]; omega
  have hw3 : IntKind.i64.wrap (((n + T - 1 : Nat) : Int) - (p : Int)) = ((n + T - 1 - p : Nat) : Int) := by rw [IntWalk.i64_in _ (by omega)]; omega
  have hw4 : (((n + T - 1 - p : Nat) : Int)).tdiv (T : Int) = (((n + T - 1 - p) / T : Nat) : Int) := (Int.ofNat_tdiv _ _).symm
  have hb1' : (n + T - 1 - p) / T ≤ n + T - 1 - p := Nat.div_le_self _ _
  have e1 : n + T - 1 - p ≤ 300000 := by omega
  generalize n + T - 1 - p = X1 at *
  generalize hQ1 : X1 / T = Q1 at *
  have hw5 : IntKind.i64.wrap (Q1 : Int) = (Q1 : Int) := IntWalk.i64_in _ (by omega)
  generalize n + T - 1 = X2 at *
  generalize n + T = X3 at *
  replace hQ1 := Lib.hid hQ1
  by_cases hm : 0 < p ∧ p < s - 1
  · rw [if_pos hm] at hv
    rw [decide_eq_true hm] at hen
    simp only [Bool.not_true] at hen
    have hw6 : IntKind.i64.wrap ((n : Int) + (p : Int)) = ((n + p : Nat) : Int) := by rw [IntWalk.i64_in _ (by omega)]; omega
    have hw7 : IntKind.i64.wrap (((n + p : Nat) : Int) - 1) = ((n + p - 1 : Nat) : Int) := by rw [IntWalk.i64_in _ (by omega)]; omega
    have hw8 : (((n + p - 1 : Nat) : Int)).tdiv (T : Int) = (((n + p - 1) / T : Nat) : Int) := (Int.ofNat_tdiv _ _).symm
    have hb2' : (n + p - 1) / T ≤ n + p - 1 := Nat.div_le_self _ _
    have e2 : n + p - 1 ≤ 300000 := by omega
    generalize n + p - 1 = Y1 at *
    generalize hQ2 : Y1 / T = Q2 at *
    replace hQ2 := Lib.hid hQ2
    have hw9 : IntKind.i64.wrap (Q2 : Int) = (Q2 : Int) := IntWalk.i64_in _ (by omega)
    have hw10 : IntKind.i64.wrap ((Q1 : Int) + (Q2 : Int)) = v := by rw [IntWalk.i64_in _ (by omega)]; omega
    generalize n + p = Y2 at *
    replace hv := Lib.hid hv
    clear hm hT1
    go_enter Try.func38, Try.ntmps38
    go_wp2_with fail
    refine wp_region_held_drew (S := fun w' => Below w.heap.size w w' ∧ w'.cell? ⟨w.heap.size, 0, none⟩ = some (.int .i64 (s : Int)) ∧ w'.cell? ⟨w.heap.size, 1, none⟩ = some (.int .i64 I) ∧ w'.cell? ⟨w.heap.size, 2, none⟩ = some (.int .i64 K)) (by kernel_rfl) ?_ (fun hHeld => ?_)
    · exact ⟨(below_a1 _ _).drew, cell_new (by simp) rfl, cell_new (by simp) rfl, cell_new (by simp) rfl⟩
    refine wpAnyH_take (i := 0) (v := ?vaU1_0) rfl (by kernel_rfl) (by kernel_rfl) (by kernel_rfl) (fun _ _ _ h => h) (Or.inl ⟨rfl, ?yaU1_0⟩) (by assumption) ?_
    case yaU1_0 => (intro w hSw; (try dsimp only at hSw); go_simp; first | done | with_reducible rfl)
    simp only [List.getElem_toArray, List.getElem_cons_succ, List.getElem_cons_zero, Act.put, List.setIfInBounds_toArray, List.set_cons_zero, List.set_cons_succ]
    refine wpAnyH_take (i := 1) (v := ?vaU1_1) rfl (by kernel_rfl) (by kernel_rfl) (by kernel_rfl) (fun _ _ _ h => h) (Or.inl ⟨rfl, ?yaU1_1⟩) (by assumption) ?_
    case yaU1_1 => (intro w hSw; (try dsimp only at hSw); go_simp; first | done | with_reducible rfl)
    simp only [List.getElem_toArray, List.getElem_cons_succ, List.getElem_cons_zero, Act.put, List.setIfInBounds_toArray, List.set_cons_zero, List.set_cons_succ]
    refine wpAnyH_take (i := 5) (v := ?vaU1_5) rfl (by kernel_rfl) (by kernel_rfl) (by kernel_rfl) (fun _ _ _ h => h) (Or.inl ⟨rfl, ?yaU1_5⟩) (by assumption) ?_
    case yaU1_5 => (intro w hSw; (try dsimp only at hSw); go_simp; first | done | with_reducible rfl)
    simp only [List.getElem_toArray, List.getElem_cons_succ, List.getElem_cons_zero, Act.put, List.setIfInBounds_toArray, List.set_cons_zero, List.set_cons_succ]
    refine wpAnyH_take (i := 7) (v := ?vaU1_7) rfl (by kernel_rfl) (by kernel_rfl) (by kernel_rfl) (fun _ _ _ h => h) (Or.inl ⟨rfl, ?yaU1_7⟩) (by assumption) ?_
    case yaU1_7 => (intro w hSw; (try dsimp only at hSw); go_simp; first | done | with_reducible rfl)
    simp only [List.getElem_toArray, List.getElem_cons_succ, List.getElem_cons_zero, Act.put, List.setIfInBounds_toArray, List.set_cons_zero, List.set_cons_succ]
    refine wpAnyH_ready (rs := [2]) (by kernel_rfl) (by simp) ?_
    refine AllReadyH.cons rfl (fun K hK => ?_) AllReadyH.nil
    go_simp
    refine (hrd.out _).mono ?_
    rintro e u1 ⟨rfl, hv1⟩
    go_wp2_with fail
    refine hK.out _ _ ?_ (fun hHeld => ?_)
    · exact ⟨hHeld.1.step hv1, cell_step hHeld.2.1 hv1, cell_step hHeld.2.2.1 hv1, cell_step hHeld.2.2.2 hv1⟩
    clear hK K
    try simp only [List.getElem_toArray, List.getElem_cons_succ, List.getElem_cons_zero, Act.put, List.setIfInBounds_toArray, List.set_cons_zero, List.set_cons_succ]
    refine wpAnyH_take (i := 3) (v := ?vaU1_3) rfl (by kernel_rfl) (by kernel_rfl) (by kernel_rfl) (fun _ _ _ h => h) (Or.inl ⟨rfl, ?yaU1_3⟩) (by assumption) ?_
    case yaU1_3 => (intro w hSw; (try dsimp only at hSw); go_simp; first | done | with_reducible rfl)
    simp only [List.getElem_toArray, List.getElem_cons_succ, List.getElem_cons_zero, Act.put, List.setIfInBounds_toArray, List.set_cons_zero, List.set_cons_succ]
    refine wpAnyH_take (i := 4) (v := ?vaU1_4) rfl (by kernel_rfl) (by kernel_rfl) (by kernel_rfl) (fun _ _ _ h => h) (Or.inl ⟨rfl, ?yaU1_4⟩) (by assumption) ?_
    case yaU1_4 => (intro w hSw; (try dsimp only at hSw); go_simp; first | done | with_reducible rfl)
    simp only [List.getElem_toArray, List.getElem_cons_succ, List.getElem_cons_zero, Act.put, List.setIfInBounds_toArray, List.set_cons_zero, List.set_cons_succ]
    refine wpAnyH_take (i := 6) (v := ?vaU1_6) rfl (by kernel_rfl) (by kernel_rfl) (by kernel_rfl) (fun _ _ _ h => h) (Or.inl ⟨rfl, ?yaU1_6⟩) (by assumption) ?_
    case yaU1_6 => (intro w hSw; (try dsimp only at hSw); go_simp; first | done | with_reducible rfl)
    simp only [List.getElem_toArray, List.getElem_cons_succ, List.getElem_cons_zero, Act.put, List.setIfInBounds_toArray, List.set_cons_zero, List.set_cons_succ]
    refine wpAnyH_ready (rs := [8]) (by kernel_rfl) (by simp) ?_
    refine AllReadyH.cons rfl (fun K hK => ?_) AllReadyH.nil
    go_simp
    refine (hrd.out _).mono ?_
    rintro e u2 ⟨rfl, hv2⟩
    go_wp2_with fail
    refine hK.out _ _ ?_ (fun hHeld => ?_)
    · exact ⟨hHeld.1.step hv2, cell_step hHeld.2.1 hv2, cell_step hHeld.2.2.1 hv2, cell_step hHeld.2.2.2 hv2⟩
    clear hK K
    try simp only [List.getElem_toArray, List.getElem_cons_succ, List.getElem_cons_zero, Act.put, List.setIfInBounds_toArray, List.set_cons_zero, List.set_cons_succ]
    refine wpAnyH_take (i := 9) (v := ?vaU1_9) rfl (by kernel_rfl) (by kernel_rfl) (by kernel_rfl) (fun _ _ _ h => h) (Or.inl ⟨rfl, ?yaU1_9⟩) (by assumption) ?_
    case yaU1_9 => (intro w hSw; (try dsimp only at hSw); go_simp; first | done | with_reducible rfl)
    simp only [List.getElem_toArray, List.getElem_cons_succ, List.getElem_cons_zero, Act.put, List.setIfInBounds_toArray, List.set_cons_zero, List.set_cons_succ]
    refine wpAnyH_take (i := 10) (v := ?vaU1_10) rfl (by kernel_rfl) (by kernel_rfl) (by kernel_rfl) (fun _ _ _ h => h) (Or.inl ⟨rfl, ?yaU1_10⟩) (by assumption) ?_
    case yaU1_10 => (intro w hSw; (try dsimp only at hSw); go_simp; first | done | with_reducible rfl)
    simp only [List.getElem_toArray, List.getElem_cons_succ, List.getElem_cons_zero, Act.put, List.setIfInBounds_toArray, List.set_cons_zero, List.set_cons_succ]
    refine wpAnyH_done (by kernel_rfl) ?_ _
    go_wp2_with fail
    refine (hen.out _).mono ?_
    rintro e w1 ⟨rfl, hb1⟩
    have hb3 := hHeld.1.step hb1
    have q0 := cell_step hHeld.2.1 hb1
    have q1 := cell_step hHeld.2.2.1 hb1
    have q2 := cell_step hHeld.2.2.2 hb1
    clear hHeld hb1
    go_wp2_with fail
    refine (hrd.out _).mono ?_
    rintro e w2 ⟨rfl, hb2⟩
    go_wp2
    go_ret
    exact ⟨rfl, hb3.step hb2⟩
  · rw [if_neg hm, Nat.add_zero] at hv
    rw [decide_eq_false hm] at hen
    simp only [Bool.not_false] at hen
    replace hv := Lib.hid hv
    clear hm hT1
    go_enter Try.func38, Try.ntmps38
    go_wp2_with fail
    refine wp_region_held_drew (S := fun w' => Below w.heap.size w w' ∧ w'.cell? ⟨w.heap.size, 0, none⟩ = some (.int .i64 (s : Int)) ∧ w'.cell? ⟨w.heap.size, 1, none⟩ = some (.int .i64 I) ∧ w'.cell? ⟨w.heap.size, 2, none⟩ = some (.int .i64 K)) (by kernel_rfl) ?_ (fun hHeld => ?_)
    · exact ⟨(below_a1 _ _).drew, cell_new (by simp) rfl, cell_new (by simp) rfl, cell_new (by simp) rfl⟩
    refine wpAnyH_take (i := 0) (v := ?vbU2_0) rfl (by kernel_rfl) (by kernel_rfl) (by kernel_rfl) (fun _ _ _ h => h) (Or.inl ⟨rfl, ?ybU2_0⟩) (by assumption) ?_
    case ybU2_0 => (intro w hSw; (try dsimp only at hSw); go_simp; first | done | with_reducible rfl)
    simp only [List.getElem_toArray, List.getElem_cons_succ, List.getElem_cons_zero, Act.put, List.setIfInBounds_toArray, List.set_cons_zero, List.set_cons_succ]
    refine wpAnyH_take (i := 1) (v := ?vbU2_1) rfl (by kernel_rfl) (by kernel_rfl) (by kernel_rfl) (fun _ _ _ h => h) (Or.inl ⟨rfl, ?ybU2_1⟩) (by assumption) ?_
    case ybU2_1 => (intro w hSw; (try dsimp only at hSw); go_simp; first | done | with_reducible rfl)
    simp only [List.getElem_toArray, List.getElem_cons_succ, List.getElem_cons_zero, Act.put, List.setIfInBounds_toArray, List.set_cons_zero, List.set_cons_succ]
    refine wpAnyH_take (i := 5) (v := ?vbU2_5) rfl (by kernel_rfl) (by kernel_rfl) (by kernel_rfl) (fun _ _ _ h => h) (Or.inl ⟨rfl, ?ybU2_5⟩) (by assumption) ?_
    case ybU2_5 => (intro w hSw; (try dsimp only at hSw); go_simp; first | done | with_reducible rfl)
    simp only [List.getElem_toArray, List.getElem_cons_succ, List.getElem_cons_zero, Act.put, List.setIfInBounds_toArray, List.set_cons_zero, List.set_cons_succ]
    refine wpAnyH_take (i := 7) (v := ?vbU2_7) rfl (by kernel_rfl) (by kernel_rfl) (by kernel_rfl) (fun _ _ _ h => h) (Or.inl ⟨rfl, ?ybU2_7⟩) (by assumption) ?_
    case ybU2_7 => (intro w hSw; (try dsimp only at hSw); go_simp; first | done | with_reducible rfl)
    simp only [List.getElem_toArray, List.getElem_cons_succ, List.getElem_cons_zero, Act.put, List.setIfInBounds_toArray, List.set_cons_zero, List.set_cons_succ]
    refine wpAnyH_ready (rs := [2]) (by kernel_rfl) (by simp) ?_
    refine AllReadyH.cons rfl (fun K hK => ?_) AllReadyH.nil
    go_simp
    refine (hrd.out _).mono ?_
    rintro e u1 ⟨rfl, hv1⟩
    go_wp2_with fail
    refine hK.out _ _ ?_ (fun hHeld => ?_)
    · exact ⟨hHeld.1.step hv1, cell_step hHeld.2.1 hv1, cell_step hHeld.2.2.1 hv1, cell_step hHeld.2.2.2 hv1⟩
    clear hK K
    try simp only [List.getElem_toArray, List.getElem_cons_succ, List.getElem_cons_zero, Act.put, List.setIfInBounds_toArray, List.set_cons_zero, List.set_cons_succ]
    refine wpAnyH_take (i := 3) (v := ?vbU2_3) rfl (by kernel_rfl) (by kernel_rfl) (by kernel_rfl) (fun _ _ _ h => h) (Or.inl ⟨rfl, ?ybU2_3⟩) (by assumption) ?_
    case ybU2_3 => (intro w hSw; (try dsimp only at hSw); go_simp; first | done | with_reducible rfl)
    simp only [List.getElem_toArray, List.getElem_cons_succ, List.getElem_cons_zero, Act.put, List.setIfInBounds_toArray, List.set_cons_zero, List.set_cons_succ]
    refine wpAnyH_take (i := 4) (v := ?vbU2_4) rfl (by kernel_rfl) (by kernel_rfl) (by kernel_rfl) (fun _ _ _ h => h) (Or.inl ⟨rfl, ?ybU2_4⟩) (by assumption) ?_
    case ybU2_4 => (intro w hSw; (try dsimp only at hSw); go_simp; first | done | with_reducible rfl)
    simp only [List.getElem_toArray, List.getElem_cons_succ, List.getElem_cons_zero, Act.put, List.setIfInBounds_toArray, List.set_cons_zero, List.set_cons_succ]
    refine wpAnyH_take (i := 6) (v := ?vbU2_6) rfl (by kernel_rfl) (by kernel_rfl) (by kernel_rfl) (fun _ _ _ h => h) (Or.inl ⟨rfl, ?ybU2_6⟩) (by assumption) ?_
    case ybU2_6 => (intro w hSw; (try dsimp only at hSw); go_simp; first | done | with_reducible rfl)
    simp only [List.getElem_toArray, List.getElem_cons_succ, List.getElem_cons_zero, Act.put, List.setIfInBounds_toArray, List.set_cons_zero, List.set_cons_succ]
    refine wpAnyH_ready (rs := [8]) (by kernel_rfl) (by simp) ?_
    refine AllReadyH.cons rfl (fun K hK => ?_) AllReadyH.nil
    go_simp
    refine (hrd.out _).mono ?_
    rintro e u2 ⟨rfl, hv2⟩
    go_wp2_with fail
    refine hK.out _ _ ?_ (fun hHeld => ?_)
    · exact ⟨hHeld.1.step hv2, cell_step hHeld.2.1 hv2, cell_step hHeld.2.2.1 hv2, cell_step hHeld.2.2.2 hv2⟩
    clear hK K
    try simp only [List.getElem_toArray, List.getElem_cons_succ, List.getElem_cons_zero, Act.put, List.setIfInBounds_toArray, List.set_cons_zero, List.set_cons_succ]
    refine wpAnyH_take (i := 9) (v := ?vbU2_9) rfl (by kernel_rfl) (by kernel_rfl) (by kernel_rfl) (fun _ _ _ h => h) (Or.inl ⟨rfl, ?ybU2_9⟩) (by assumption) ?_
    case ybU2_9 => (intro w hSw; (try dsimp only at hSw); go_simp; first | done | with_reducible rfl)
    simp only [List.getElem_toArray, List.getElem_cons_succ, List.getElem_cons_zero, Act.put, List.setIfInBounds_toArray, List.set_cons_zero, List.set_cons_succ]
    refine wpAnyH_take (i := 10) (v := ?vbU2_10) rfl (by kernel_rfl) (by kernel_rfl) (by kernel_rfl) (fun _ _ _ h => h) (Or.inl ⟨rfl, ?ybU2_10⟩) (by assumption) ?_
    case ybU2_10 => (intro w hSw; (try dsimp only at hSw); go_simp; first | done | with_reducible rfl)
    simp only [List.getElem_toArray, List.getElem_cons_succ, List.getElem_cons_zero, Act.put, List.setIfInBounds_toArray, List.set_cons_zero, List.set_cons_succ]
    refine wpAnyH_done (by kernel_rfl) ?_ _
    go_wp2_with fail
    refine (hen.out _).mono ?_
    rintro e w1 ⟨rfl, hb1⟩
    have hb3 := hHeld.1.step hb1
    clear hHeld hb1
    go_wp2
    go_ret
    exact ⟨ret_i64 hv.out, hb3⟩
set_option maxRecDepth 100000 in
set_option maxHeartbeats 2400000 in
theorem shade14i (r : RibbonD) (hok : rbB r = true) (n : Nat) (hn : n ≤ 200000) {v : Int} (hv : shadeV r n = v) (w : World) :
    Calls Try.prog 40 #[.agg #[.int .i64 r.spots, .int .i64 r.ink, .int .i64 r.takes], .int .i64 (n : Int)] w fun e w' => e = .returned (.int .i64 v) ∧ Below w.heap.size w w' := by
  have hsp := Lib.hid (fun W => spot14i r hok (n : Int) (by omega) (by omega) (spotV_nat hok n) W)
  obtain ⟨⟨c0, c1⟩, ⟨d0, d1⟩, f0, f1⟩ := rbB_iff.1 hok
  have hlt := spN_lt r.spots.toNat n (by omega)
  have hbf := Lib.hid (fun W => uses14i r hok (spN r.spots.toNat n) n hlt (by omega) rfl W)
  have hle := useN_le r.spots.toNat (spN r.spots.toNat n) n
  unfold shadeV at hv
  obtain ⟨S, I, K⟩ := r
  simp only at *
  obtain ⟨p, hp⟩ : ∃ p, spN S.toNat n = p := ⟨_, rfl⟩
  rw [hp] at hsp hbf hle hv
  obtain ⟨u, hu⟩ : ∃ u, useN S.toNat p n = u := ⟨_, rfl⟩
  rw [hu] at hbf hle hv
  have q0 : 0 ≤ K * (u : Int) := Int.mul_nonneg (by omega) (by omega)
  have q1 : K * (u : Int) ≤ 1000 * 200000 := Int.mul_le_mul (by omega) (by omega) (by omega) (by omega)
  obtain ⟨Q, hQ⟩ : ∃ Q, K * (u : Int) = Q := ⟨_, rfl⟩
  have hw1 : IntKind.i64.wrap (K * (u : Int)) = Q := by rw [hQ]; rw [hQ] at q0 q1; exact IntWalk.i64_in _ (by omega)
  rw [hQ] at q0 q1 hv
  have hw2 : IntKind.i64.wrap (I - Q) = I - Q := IntWalk.i64_in _ (by omega)
  obtain ⟨D, hD⟩ : ∃ D, I - Q = D := ⟨_, rfl⟩
  replace hw2 : IntKind.i64.wrap (I - Q) = D := by rw [hw2]; exact hD
  rw [hD] at hv
  clear hok hlt hp hu hQ hD
  go_enter Try.func40, Try.ntmps40
  go_wp2_with fail
  refine wp_region_held_drew (S := fun w' => Below w.heap.size w w' ∧ w'.cell? ⟨w.heap.size, 0, none⟩ = some (.int .i64 S) ∧ w'.cell? ⟨w.heap.size, 1, none⟩ = some (.int .i64 I) ∧ w'.cell? ⟨w.heap.size, 2, none⟩ = some (.int .i64 K)) (by kernel_rfl) ?_ (fun hHeld => ?_)
  · exact ⟨(below_a1 _ _).drew, cell_new (by simp) rfl, cell_new (by simp) rfl, cell_new (by simp) rfl⟩
  refine wpAnyH_take (i := 0) (v := ?vcU3_0) rfl (by kernel_rfl) (by kernel_rfl) (by kernel_rfl) (fun _ _ _ h => h) (Or.inl ⟨rfl, ?ycU3_0⟩) (by assumption) ?_
  case ycU3_0 => (intro w hSw; (try dsimp only at hSw); go_simp; first | done | with_reducible rfl)
  simp only [List.getElem_toArray, List.getElem_cons_succ, List.getElem_cons_zero, Act.put, List.setIfInBounds_toArray, List.set_cons_zero, List.set_cons_succ]
  refine wpAnyH_take (i := 1) (v := ?vcU3_1) rfl (by kernel_rfl) (by kernel_rfl) (by kernel_rfl) (fun _ _ _ h => h) (Or.inl ⟨rfl, ?ycU3_1⟩) (by assumption) ?_
  case ycU3_1 => (intro w hSw; (try dsimp only at hSw); go_simp; first | done | with_reducible rfl)
  simp only [List.getElem_toArray, List.getElem_cons_succ, List.getElem_cons_zero, Act.put, List.setIfInBounds_toArray, List.set_cons_zero, List.set_cons_succ]
  refine wpAnyH_take (i := 2) (v := ?vcU3_2) rfl (by kernel_rfl) (by kernel_rfl) (by kernel_rfl) (fun _ _ _ h => h) (Or.inl ⟨rfl, ?ycU3_2⟩) (by assumption) ?_
  case ycU3_2 => (intro w hSw; (try dsimp only at hSw); go_simp; first | done | with_reducible rfl)
  simp only [List.getElem_toArray, List.getElem_cons_succ, List.getElem_cons_zero, Act.put, List.setIfInBounds_toArray, List.set_cons_zero, List.set_cons_succ]
  refine wpAnyH_take (i := 3) (v := ?vcU3_3) rfl (by kernel_rfl) (by kernel_rfl) (by kernel_rfl) (fun _ _ _ h => h) (Or.inl ⟨rfl, ?ycU3_3⟩) (by assumption) ?_
  case ycU3_3 => (intro w hSw; (try dsimp only at hSw); go_simp; first | done | with_reducible rfl)
  simp only [List.getElem_toArray, List.getElem_cons_succ, List.getElem_cons_zero, Act.put, List.setIfInBounds_toArray, List.set_cons_zero, List.set_cons_succ]
  refine wpAnyH_take (i := 4) (v := ?vcU3_4) rfl (by kernel_rfl) (by kernel_rfl) (by kernel_rfl) (fun _ _ _ h => h) (Or.inl ⟨rfl, ?ycU3_4⟩) (by assumption) ?_
  case ycU3_4 => (intro w hSw; (try dsimp only at hSw); go_simp; first | done | with_reducible rfl)
  simp only [List.getElem_toArray, List.getElem_cons_succ, List.getElem_cons_zero, Act.put, List.setIfInBounds_toArray, List.set_cons_zero, List.set_cons_succ]
  refine wpAnyH_take (i := 5) (v := ?vcU3_5) rfl (by kernel_rfl) (by kernel_rfl) (by kernel_rfl) (fun _ _ _ h => h) (Or.inl ⟨rfl, ?ycU3_5⟩) (by assumption) ?_
  case ycU3_5 => (intro w hSw; (try dsimp only at hSw); go_simp; first | done | with_reducible rfl)
  simp only [List.getElem_toArray, List.getElem_cons_succ, List.getElem_cons_zero, Act.put, List.setIfInBounds_toArray, List.set_cons_zero, List.set_cons_succ]
  refine wpAnyH_take (i := 6) (v := ?vcU3_6) rfl (by kernel_rfl) (by kernel_rfl) (by kernel_rfl) (fun _ _ _ h => h) (Or.inl ⟨rfl, ?ycU3_6⟩) (by assumption) ?_
  case ycU3_6 => (intro w hSw; (try dsimp only at hSw); go_simp; first | done | with_reducible rfl)
  simp only [List.getElem_toArray, List.getElem_cons_succ, List.getElem_cons_zero, Act.put, List.setIfInBounds_toArray, List.set_cons_zero, List.set_cons_succ]
  refine wpAnyH_take (i := 8) (v := ?vcU3_8) rfl (by kernel_rfl) (by kernel_rfl) (by kernel_rfl) (fun _ _ _ h => h) (Or.inl ⟨rfl, ?ycU3_8⟩) (by assumption) ?_
  case ycU3_8 => (intro w hSw; (try dsimp only at hSw); go_simp; first | done | with_reducible rfl)
  simp only [List.getElem_toArray, List.getElem_cons_succ, List.getElem_cons_zero, Act.put, List.setIfInBounds_toArray, List.set_cons_zero, List.set_cons_succ]
  refine wpAnyH_ready (rs := [7]) (by kernel_rfl) (by simp) ?_
  refine AllReadyH.cons rfl (fun K hK => ?_) AllReadyH.nil
  go_simp
  refine (hsp.out _).mono ?_
  rintro e w5 ⟨rfl, hb5⟩
  go_wp2_with fail
  refine hK.out _ _ ?_ (fun hHeld => ?_)
  · exact ⟨hHeld.1.step hb5, cell_step hHeld.2.1 hb5, cell_step hHeld.2.2.1 hb5, cell_step hHeld.2.2.2 hb5⟩
  clear hK K
  try simp only [List.getElem_toArray, List.getElem_cons_succ, List.getElem_cons_zero, Act.put, List.setIfInBounds_toArray, List.set_cons_zero, List.set_cons_succ]
  refine wpAnyH_ready (rs := [9]) (by kernel_rfl) (by simp) ?_
  refine AllReadyH.cons rfl (fun K hK => ?_) AllReadyH.nil
  go_simp
  refine (hbf.out _).mono ?_
  rintro e w6 ⟨rfl, hb6⟩
  go_wp2_with fail
  refine hK.out _ _ ?_ (fun hHeld => ?_)
  · exact ⟨hHeld.1.step hb6, cell_step hHeld.2.1 hb6, cell_step hHeld.2.2.1 hb6, cell_step hHeld.2.2.2 hb6⟩
  clear hK K
  try simp only [List.getElem_toArray, List.getElem_cons_succ, List.getElem_cons_zero, Act.put, List.setIfInBounds_toArray, List.set_cons_zero, List.set_cons_succ]
  refine wpAnyH_take (i := 10) (v := ?vcU3_10) rfl (by kernel_rfl) (by kernel_rfl) (by kernel_rfl) (fun _ _ _ h => h) (Or.inl ⟨rfl, ?ycU3_10⟩) (by assumption) ?_
  case ycU3_10 => (intro w hSw; (try dsimp only at hSw); go_simp; first | done | with_reducible rfl)
  simp only [List.getElem_toArray, List.getElem_cons_succ, List.getElem_cons_zero, Act.put, List.setIfInBounds_toArray, List.set_cons_zero, List.set_cons_succ]
  refine wpAnyH_take (i := 11) (v := ?vcU3_11) rfl (by kernel_rfl) (by kernel_rfl) (by kernel_rfl) (fun _ _ _ h => h) (Or.inl ⟨rfl, ?ycU3_11⟩) (by assumption) ?_
  case ycU3_11 => (intro w hSw; (try dsimp only at hSw); go_simp; first | done | with_reducible rfl)
  simp only [List.getElem_toArray, List.getElem_cons_succ, List.getElem_cons_zero, Act.put, List.setIfInBounds_toArray, List.set_cons_zero, List.set_cons_succ]
  refine wpAnyH_take (i := 12) (v := ?vcU3_12) rfl (by kernel_rfl) (by kernel_rfl) (by kernel_rfl) (fun _ _ _ h => h) (Or.inl ⟨rfl, ?ycU3_12⟩) (by assumption) ?_
  case ycU3_12 => (intro w hSw; (try dsimp only at hSw); go_simp; first | done | with_reducible rfl)
  simp only [List.getElem_toArray, List.getElem_cons_succ, List.getElem_cons_zero, Act.put, List.setIfInBounds_toArray, List.set_cons_zero, List.set_cons_succ]
  refine wpAnyH_take (i := 13) (v := ?vcU3_13) rfl (by kernel_rfl) (by kernel_rfl) (by kernel_rfl) (fun _ _ _ h => h) (Or.inl ⟨rfl, ?ycU3_13⟩) (by assumption) ?_
  case ycU3_13 => (intro w hSw; (try dsimp only at hSw); go_simp; first | done | with_reducible rfl)
  simp only [List.getElem_toArray, List.getElem_cons_succ, List.getElem_cons_zero, Act.put, List.setIfInBounds_toArray, List.set_cons_zero, List.set_cons_succ]
  refine wpAnyH_done (by kernel_rfl) ?_ _
  go_wp2
  go_ret
  exact ⟨rfl, hHeld.1⟩
theorem sat14_impl (r : RibbonD) (n : Int) (w : World) (hg : r.good) (hwf : (Lit.int .i64 n).wf = true) :
    Calls Try.prog 15 #[.agg #[.int .i64 r.spots, .int .i64 r.ink, .int .i64 r.takes], .int .i64 n] w fun e w' => e = .returned (.tuple #[.int .i64 (satR r n).1, .int .i64 (satR r n).2]) ∧ Below w.heap.size w w' := by
  clear hg hwf
  generalize hr : satR r n = q
  replace hr := Lib.hid hr.symm
  have hc := Lib.hid (fun v h W => code14i r n (v := v) h W)
  by_cases h1 : rcC r n = 0
  · obtain ⟨hok, h0, h2⟩ := rcC_ok h1
    have hb : Hid (q = (spotV r n, 0)) := Lib.hid (by rw [hr.out, satR, if_pos h1])
    have hc1 := Lib.hid (fun W => hc.out _ h1 W)
    have hs := Lib.hid (fun W => spot14i r hok n h0 (by omega) rfl W)
    generalize spotV r n = g at *
    clear h1 hr hc hok h0 h2
    obtain ⟨S, I, K⟩ := r
    go_enter Try.func15, Try.ntmps15
    go_wp2_with fail
    refine (hc1.out _).mono ?_
    rintro e w1 ⟨rfl, hb1⟩
    obtain ⟨q0, q1, q2⟩ := (Box3r.new w _ (.int .i64 S) (.int .i64 I) (.int .i64 K)).step hb1
    go_wp2_with fail
    refine (hs.out _).mono ?_
    rintro e w2 ⟨rfl, hb2⟩
    go_wp2
    go_ret2
    exact ⟨ret8_2 hb.out, ((below_a1 _ _).step hb1).step hb2⟩
  · have hb : Hid (q = (0, rcC r n)) := Lib.hid (by rw [hr.out, satR, if_neg h1])
    have hc1 := Lib.hid (fun W => hc.out _ rfl W)
    generalize rcC r n = g at *
    have y1 : (g == 0) = false := beq_eq_false_iff_ne.2 h1
    have y2 : (g != 0) = true := by rw [bne, y1]; rfl
    clear h1 hr hc
    obtain ⟨S, I, K⟩ := r
    go_enter Try.func15, Try.ntmps15
    go_wp2_with fail
    refine (hc1.out _).mono ?_
    rintro e w1 ⟨rfl, hb1⟩
    go_wp2
    go_ret2
    exact ⟨ret8_2 hb.out, (below_a1 _ _).step hb1⟩
theorem sa14_impl (r : RibbonD) (n : Int) (w : World) (hg : r.good) (hwf : (Lit.int .i64 n).wf = true) :
    Calls Try.prog 22 #[.agg #[.int .i64 r.spots, .int .i64 r.ink, .int .i64 r.takes], .int .i64 n] w fun e w' => e = .returned (.tuple #[.int .i64 (saR14 r n).1, .int .i64 (saR14 r n).2]) ∧ Below w.heap.size w w' := by
  clear hg hwf
  generalize hr : saR14 r n = q
  replace hr := Lib.hid hr.symm
  have hc := Lib.hid (fun v h W => code14i r n (v := v) h W)
  by_cases h1 : rcC r n = 0
  · obtain ⟨hok, h0, h2⟩ := rcC_ok h1
    have hb : Hid (q = (shadeV r n.toNat, 0)) := Lib.hid (by rw [hr.out, saR14, if_pos h1])
    have hc1 := Lib.hid (fun W => hc.out _ h1 W)
    have hs := Lib.hid (fun W => shade14i r hok n.toNat (by omega) rfl W)
    rw [show ((n.toNat : Nat) : Int) = n from Int.toNat_of_nonneg h0] at hs
    generalize shadeV r n.toNat = g at *
    clear h1 hr hc hok h0 h2
    obtain ⟨S, I, K⟩ := r
    go_enter Try.func22, Try.ntmps22
    go_wp2_with fail
    refine (hc1.out _).mono ?_
    rintro e w1 ⟨rfl, hb1⟩
    obtain ⟨q0, q1, q2⟩ := (Box3r.new w _ (.int .i64 S) (.int .i64 I) (.int .i64 K)).step hb1
    go_wp2_with fail
    refine (hs.out _).mono ?_
    rintro e w2 ⟨rfl, hb2⟩
    go_wp2
    go_ret2
    exact ⟨ret8_2 hb.out, ((below_a1 _ _).step hb1).step hb2⟩
  · have hb : Hid (q = (0, rcC r n)) := Lib.hid (by rw [hr.out, saR14, if_neg h1])
    have hc1 := Lib.hid (fun W => hc.out _ rfl W)
    generalize rcC r n = g at *
    have y1 : (g == 0) = false := beq_eq_false_iff_ne.2 h1
    have y2 : (g != 0) = true := by rw [bne, y1]; rfl
    clear h1 hr hc
    obtain ⟨S, I, K⟩ := r
    go_enter Try.func22, Try.ntmps22
    go_wp2_with fail
    refine (hc1.out _).mono ?_
    rintro e w1 ⟨rfl, hb1⟩
    go_wp2
    go_ret2
    exact ⟨ret8_2 hb.out, (below_a1 _ _).step hb1⟩
set_option maxHeartbeats 1600000 in
theorem tu14_impl (r : RibbonD) (n : Int) (w : World) (hg : r.good) (hwf : (Lit.int .i64 n).wf = true) :
    Calls Try.prog 24 #[.agg #[.int .i64 r.spots, .int .i64 r.ink, .int .i64 r.takes], .int .i64 n] w fun e w' => e = .returned (.tuple #[.int .i64 (tuR r n).1, .int .i64 (tuR r n).2]) ∧ Below w.heap.size w w' := by
  clear hg hwf
  generalize hr : tuR r n = q
  replace hr := Lib.hid hr.symm
  have hc := Lib.hid (fun v h W => code14i r n (v := v) h W)
  by_cases h1 : rcC r n = 0
  · obtain ⟨hok, h0, h2⟩ := rcC_ok h1
    obtain ⟨⟨c0, c1⟩, _⟩ := rbB_iff.1 hok
    have hb : Hid (q = ((max 0 (n - 1)).tdiv (r.spots - 1), 0)) := Lib.hid (by rw [hr.out, tuR, if_pos h1])
    have hc1 := Lib.hid (fun W => hc.out _ h1 W)
    obtain ⟨M, hM⟩ : ∃ M, max 0 (n - 1) = M := ⟨_, rfl⟩
    have hrn := Lib.hid (fun W => run14i r hok rfl W)
    have m0 : 0 ≤ M := by omega
    have m1 : M ≤ 100000 := by omega
    have hw1 : IntKind.i64.wrap (n - 1) = n - 1 := IntWalk.i64_in _ (by omega)
    rw [hM] at hb
    clear h1 hr hc hok
    obtain ⟨S, I, K⟩ := r
    simp only at c0 c1 hb
    have hw2 : IntKind.i64.wrap (S - 1) = S - 1 := IntWalk.i64_in _ (by omega)
    have hz : (S - 1 == 0) = false := beq_eq_false_iff_ne.2 (by omega)
    have hz2 : ¬ S - 1 = 0 := by omega
    obtain ⟨Q, hQ⟩ : ∃ Q, M.tdiv (S - 1) = Q := ⟨_, rfl⟩
    have q4 : 0 ≤ Q ∧ Q ≤ M := by
      rw [← hQ]
      exact ⟨Int.tdiv_nonneg m0 (by omega), Int.tdiv_le_self _ m0⟩
    rw [hQ] at hb
    have hw3 : IntKind.i64.wrap Q = Q := IntWalk.i64_in _ (by omega)
    obtain ⟨D, hDD⟩ : ∃ D, n - 1 = D := ⟨_, rfl⟩
    obtain ⟨RR, hRR⟩ : ∃ RR, S - 1 = RR := ⟨_, rfl⟩
    simp only at hrn
    rw [hRR] at hw2 hz hz2 hQ hrn
    replace hw1 : IntKind.i64.wrap (n - 1) = D := by rw [hw1]; exact hDD
    rw [hDD] at hM
    clear hRR hDD
    go_enter Try.func24, Try.ntmps24
    go_wp2_with fail
    refine (hc1.out _).mono ?_
    rintro e w1 ⟨rfl, hb1⟩
    obtain ⟨q0, q1, q2⟩ := (Box3r.new w _ (.int .i64 S) (.int .i64 I) (.int .i64 K)).step hb1
    go_wp2_with fail
    refine (hrn.out _).mono ?_
    rintro e w2 ⟨rfl, hb2⟩
    go_wp2
    go_ret2
    exact ⟨ret8_2 hb.out, ((below_a1 _ _).step hb1).step hb2⟩
  · have hb : Hid (q = (0, rcC r n)) := Lib.hid (by rw [hr.out, tuR, if_neg h1])
    have hc1 := Lib.hid (fun W => hc.out _ rfl W)
    generalize rcC r n = g at *
    have y1 : (g == 0) = false := beq_eq_false_iff_ne.2 h1
    have y2 : (g != 0) = true := by rw [bne, y1]; rfl
    clear h1 hr hc
    obtain ⟨S, I, K⟩ := r
    go_enter Try.func24, Try.ntmps24
    go_wp2_with fail
    refine (hc1.out _).mono ?_
    rintro e w1 ⟨rfl, hb1⟩
    go_wp2
    go_ret2
    exact ⟨ret8_2 hb.out, (below_a1 _ _).step hb1⟩
end Go.Proofs.Ytceedmejmmoepaa
