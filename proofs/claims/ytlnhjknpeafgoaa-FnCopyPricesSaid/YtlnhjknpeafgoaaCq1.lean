/- Copies: the program's functions on carbon and ways. -/
import Derived.Test.YtlnhjknpeafgoaaCq0
namespace Go.Proofs.Ytlnhjknpeafgoaa
open Go.RowKit Go.ChangeShapes Go.WideShapes Go.Deep
set_option linter.unusedVariables false
set_option linter.unusedSimpArgs false

theorem vc13i (c : CarbonD) {v : Bool} (h : caB c = v) (w : World) :
    Calls Try.prog 18 #[.agg #[.int .i64 c.force, .int .i64 c.loss, .int .i64 c.least]] w fun e w' => e = .returned (.bool v) ∧ Below w.heap.size w w' := by
  obtain ⟨force, loss, least⟩ := c
  cases h0 : inR force 1 1000 with
  | false =>
    have hres : Hid (v = false) := Lib.hid (by rw [← h]; simp [caB, h0])
    clear h
    replace h0 := Lib.hid h0
    go_enter Try.func18, Try.ntmps18
    go_wp2_with fail
    refine (in8_impl h0.out _).mono ?_
    rintro e w' ⟨rfl, rfl⟩
    go_wp2
    go_ret
    exact ⟨ret_bo hres.out.symm, below_a1 _ _⟩
  | true =>
    cases h1 : inR loss 1 1000 with
    | false =>
      have hres : Hid (v = false) := Lib.hid (by rw [← h]; simp [caB, h0, h1])
      clear h
      replace h0 := Lib.hid h0
      replace h1 := Lib.hid h1
      go_enter Try.func18, Try.ntmps18
      go_wp2_with fail
      refine (in8_impl h0.out _).mono ?_
      rintro e w' ⟨rfl, rfl⟩
      go_wp2_with fail
      refine (in8_impl h1.out _).mono ?_
      rintro e w' ⟨rfl, rfl⟩
      go_wp2
      go_ret
      exact ⟨ret_bo hres.out.symm, below_a1 _ _⟩
    | true =>
      cases h2 : inR least 1 force with
      | false =>
        have hres : Hid (v = false) := Lib.hid (by rw [← h]; simp [caB, h0, h1, h2])
        clear h
        replace h0 := Lib.hid h0
        replace h1 := Lib.hid h1
        replace h2 := Lib.hid h2
        go_enter Try.func18, Try.ntmps18
        go_wp2_with fail
        refine (in8_impl h0.out _).mono ?_
        rintro e w' ⟨rfl, rfl⟩
        go_wp2_with fail
        refine (in8_impl h1.out _).mono ?_
        rintro e w' ⟨rfl, rfl⟩
        go_wp2_with fail
        refine (in8_impl h2.out _).mono ?_
        rintro e w' ⟨rfl, rfl⟩
        go_wp2
        go_ret
        exact ⟨ret_bo hres.out.symm, below_a1 _ _⟩
      | true =>
        have hres : Hid (v = true) := Lib.hid (by rw [← h]; simp [caB, h0, h1, h2])
        clear h
        replace h0 := Lib.hid h0
        replace h1 := Lib.hid h1
        replace h2 := Lib.hid h2
        go_enter Try.func18, Try.ntmps18
        go_wp2_with fail
        refine (in8_impl h0.out _).mono ?_
        rintro e w' ⟨rfl, rfl⟩
        go_wp2_with fail
        refine (in8_impl h1.out _).mono ?_
        rintro e w' ⟨rfl, rfl⟩
        go_wp2_with fail
        refine (in8_impl h2.out _).mono ?_
        rintro e w' ⟨rfl, rfl⟩
        go_wp2
        go_ret
        exact ⟨ret_bo hres.out.symm, below_a1 _ _⟩
theorem price13i {n : Int} {v : Bool} (h : inR n 1 10000 = v) (w : World) :
    Calls Try.prog 33 #[.int .i64 n] w fun e w' => e = .returned (.bool v) ∧ w = w' := by
  have hc := Lib.hid (fun W => in8_impl h W)
  clear h
  go_enter Try.func33, Try.ntmps33
  go_wp2_with fail
  refine (hc.out _).mono ?_
  rintro e w1 ⟨rfl, rfl⟩
  go_wp2
  go_ret
  exact ⟨rfl, rfl⟩
theorem many13i {n : Int} {v : Bool} (h : inR n 0 500 = v) (w : World) :
    Calls Try.prog 22 #[.int .i64 n] w fun e w' => e = .returned (.bool v) ∧ w = w' := by
  have hc := Lib.hid (fun W => in8_impl h W)
  clear h
  go_enter Try.func22, Try.ntmps22
  go_wp2_with fail
  refine (hc.out _).mono ?_
  rintro e w1 ⟨rfl, rfl⟩
  go_wp2
  go_ret
  exact ⟨rfl, rfl⟩
theorem vw13i (x : WaysD) {v : Bool} (h : waB x = v) (w : World) :
    Calls Try.prog 32 #[.agg #[.int .i64 x.typing, .int .i64 x.sheet, .int .i64 x.stencil, .int .i64 x.pull]] w fun e w' => e = .returned (.bool v) ∧ Below w.heap.size w w' := by
  obtain ⟨typing, sheet, stencil, pull⟩ := x
  cases h0 : inR typing 1 10000 with
  | false =>
    have hres : Hid (v = false) := Lib.hid (by rw [← h]; simp [waB, h0])
    clear h
    replace h0 := Lib.hid h0
    go_enter Try.func32, Try.ntmps32
    go_wp2_with fail
    refine (price13i h0.out _).mono ?_
    rintro e w' ⟨rfl, rfl⟩
    go_wp2
    go_ret
    exact ⟨ret_bo hres.out.symm, below_a1 _ _⟩
  | true =>
    cases h1 : inR sheet 1 10000 with
    | false =>
      have hres : Hid (v = false) := Lib.hid (by rw [← h]; simp [waB, h0, h1])
      clear h
      replace h0 := Lib.hid h0
      replace h1 := Lib.hid h1
      go_enter Try.func32, Try.ntmps32
      go_wp2_with fail
      refine (price13i h0.out _).mono ?_
      rintro e w' ⟨rfl, rfl⟩
      go_wp2_with fail
      refine (price13i h1.out _).mono ?_
      rintro e w' ⟨rfl, rfl⟩
      go_wp2
      go_ret
      exact ⟨ret_bo hres.out.symm, below_a1 _ _⟩
    | true =>
      cases h2 : inR stencil 1 10000 with
      | false =>
        have hres : Hid (v = false) := Lib.hid (by rw [← h]; simp [waB, h0, h1, h2])
        clear h
        replace h0 := Lib.hid h0
        replace h1 := Lib.hid h1
        replace h2 := Lib.hid h2
        go_enter Try.func32, Try.ntmps32
        go_wp2_with fail
        refine (price13i h0.out _).mono ?_
        rintro e w' ⟨rfl, rfl⟩
        go_wp2_with fail
        refine (price13i h1.out _).mono ?_
        rintro e w' ⟨rfl, rfl⟩
        go_wp2_with fail
        refine (price13i h2.out _).mono ?_
        rintro e w' ⟨rfl, rfl⟩
        go_wp2
        go_ret
        exact ⟨ret_bo hres.out.symm, below_a1 _ _⟩
      | true =>
        cases h3 : inR pull 1 10000 with
        | false =>
          have hres : Hid (v = false) := Lib.hid (by rw [← h]; simp [waB, h0, h1, h2, h3])
          clear h
          replace h0 := Lib.hid h0
          replace h1 := Lib.hid h1
          replace h2 := Lib.hid h2
          replace h3 := Lib.hid h3
          go_enter Try.func32, Try.ntmps32
          go_wp2_with fail
          refine (price13i h0.out _).mono ?_
          rintro e w' ⟨rfl, rfl⟩
          go_wp2_with fail
          refine (price13i h1.out _).mono ?_
          rintro e w' ⟨rfl, rfl⟩
          go_wp2_with fail
          refine (price13i h2.out _).mono ?_
          rintro e w' ⟨rfl, rfl⟩
          go_wp2_with fail
          refine (price13i h3.out _).mono ?_
          rintro e w' ⟨rfl, rfl⟩
          go_wp2
          go_ret
          exact ⟨ret_bo hres.out.symm, below_a1 _ _⟩
        | true =>
          have hres : Hid (v = true) := Lib.hid (by rw [← h]; simp [waB, h0, h1, h2, h3])
          clear h
          replace h0 := Lib.hid h0
          replace h1 := Lib.hid h1
          replace h2 := Lib.hid h2
          replace h3 := Lib.hid h3
          go_enter Try.func32, Try.ntmps32
          go_wp2_with fail
          refine (price13i h0.out _).mono ?_
          rintro e w' ⟨rfl, rfl⟩
          go_wp2_with fail
          refine (price13i h1.out _).mono ?_
          rintro e w' ⟨rfl, rfl⟩
          go_wp2_with fail
          refine (price13i h2.out _).mono ?_
          rintro e w' ⟨rfl, rfl⟩
          go_wp2_with fail
          refine (price13i h3.out _).mono ?_
          rintro e w' ⟨rfl, rfl⟩
          go_wp2
          go_ret
          exact ⟨ret_bo hres.out.symm, below_a1 _ _⟩
theorem vc13_impl (c : CarbonD) (w : World) (hg : c.good) :
    Calls Try.prog 18 #[.agg #[.int .i64 c.force, .int .i64 c.loss, .int .i64 c.least]] w fun e w' => e = .returned (.bool (caB c)) ∧ Below w.heap.size w w' := vc13i c rfl w
theorem vw13_impl (x : WaysD) (w : World) (hg : x.good) :
    Calls Try.prog 32 #[.agg #[.int .i64 x.typing, .int .i64 x.sheet, .int .i64 x.stencil, .int .i64 x.pull]] w fun e w' => e = .returned (.bool (waB x)) ∧ Below w.heap.size w w' := vw13i x rfl w
theorem str13i (c : CarbonD) (s m : Int) (hm : s * c.loss = m) (h0 : 0 ≤ m) (h1 : m ≤ 12000) (hf : 0 ≤ c.force ∧ c.force ≤ 1000) {v : Int} (hv : max 0 (c.force - m) = v) (w : World) :
    Calls Try.prog 21 #[.agg #[.int .i64 c.force, .int .i64 c.loss, .int .i64 c.least], .int .i64 s] w fun e w' => e = .returned (.int .i64 v) ∧ Below w.heap.size w w' := by
  obtain ⟨F, L, E⟩ := c
  simp only at *
  have hw1 : IntKind.i64.wrap (s * L) = m := by rw [hm]; exact IntWalk.i64_in _ (by omega)
  have hw2 : IntKind.i64.wrap (F - m) = F - m := IntWalk.i64_in _ (by omega)
  obtain ⟨D, hD⟩ : ∃ D, F - m = D := ⟨_, rfl⟩
  rw [hD] at hw2 hv
  by_cases hp : 0 < D
  · have g1 : decide (0 < D) = true := decide_eq_true hp
    have g2 : decide (D < 0) = false := decide_eq_false (by omega)
    have g3 : decide (0 ≤ D) = true := decide_eq_true (by omega)
    have hr : Hid (v = D) := Lib.hid (by omega)
    clear hv hm
    go_enter Try.func21, Try.ntmps21
    go_wp2
    go_ret
    exact ⟨by rw [hr.out]; go_num, below_a1 _ _⟩
  · have g1 : decide (0 < D) = false := decide_eq_false hp
    have g3 : decide (D ≤ 0) = true := decide_eq_true (by omega)
    have hr : Hid (v = 0) := Lib.hid (by omega)
    clear hv hm
    go_enter Try.func21, Try.ntmps21
    go_wp2
    go_ret
    exact ⟨by rw [hr.out]; go_num, below_a1 _ _⟩
set_option maxRecDepth 100000 in
set_option maxHeartbeats 1600000 in
theorem good13i (c : CarbonD) (hok : caB c = true) {g : Int} (hg : goodV c = g) (w : World) :
    Calls Try.prog 19 #[.agg #[.int .i64 c.force, .int .i64 c.loss, .int .i64 c.least]] w fun e w' => e = .returned (.int .i64 g) ∧ Below w.heap.size w w' := by
  obtain ⟨r1, r2, _, _⟩ := goodV_range hok
  have hst := Lib.hid (fun (k : Int) (h0 : 0 ≤ k) (h1 : k ≤ 12) W => str13i c k (k * c.loss) rfl (mul_in13 hok h0 h1).1 (mul_in13 hok h0 h1).2 (by have := caB_iff.1 hok; omega) rfl W)
  have hsp := Lib.hid (fun (k : Int) (h : k < 12) => good_step hok (k := k) h)
  rw [hg] at r1 r2 hsp
  obtain ⟨F, L, E⟩ := c
  simp only at hst hsp
  clear hok hg
  go_enter Try.func19, Try.ntmps19
  go_wp2
  go_loopw [3] (fun kk wr => ∃ k : Nat, 1 ≤ k ∧ (k : Int) ≤ g ∧ kk = .int .i64 (k : Int) ∧ (fun w' => Below w.heap.size w w' ∧ w'.cell? ⟨w.heap.size, 0, none⟩ = some (.int .i64 F) ∧ w'.cell? ⟨w.heap.size, 1, none⟩ = some (.int .i64 L) ∧ w'.cell? ⟨w.heap.size, 2, none⟩ = some (.int .i64 E)) wr) (fun kk _ => 13 - (intOf kk).toNat)
  case atStart => exact ⟨1, by omega, by omega, rfl, below_a1 _ _, cell_new (by simp) rfl, cell_new (by simp) rfl, cell_new (by simp) rfl⟩
  case round =>
    rename World => wr
    obtain ⟨k, hk1, hkg, rfl, hbw, q0, q1, q2⟩ := hrel
    by_cases h12 : (k : Int) < 12
    · have g1 : decide ((k : Int) < 12) = true := decide_eq_true h12
      have hs1 := Lib.hid (hst.out (k : Int) (by omega) (by omega))
      have hsp1 := hsp.out (k : Int) h12
      generalize max 0 (F - (k : Int) * L) = M at hs1 hsp1
      have hwk : IntKind.i64.wrap ((k : Int) + 1) = ((k + 1 : Nat) : Int) := by rw [IntWalk.i64_in _ (by omega)]; omega
      by_cases hkg2 : (k : Int) < g
      · have g2 : decide (E ≤ M) = true := decide_eq_true (hsp1.2 hkg2)
        replace hsp1 := Lib.hid hsp1
        go_wp2_with fail
        refine wp_region_held_drew (S := fun w' => Below w.heap.size w w' ∧ w'.cell? ⟨w.heap.size, 0, none⟩ = some (.int .i64 F) ∧ w'.cell? ⟨w.heap.size, 1, none⟩ = some (.int .i64 L) ∧ w'.cell? ⟨w.heap.size, 2, none⟩ = some (.int .i64 E)) (by kernel_rfl) ?_ (fun hHeld => ?_)
        · exact ⟨hbw.drew, cell_step q0 ((Below.refl _ wr).drew), cell_step q1 ((Below.refl _ wr).drew), cell_step q2 ((Below.refl _ wr).drew)⟩
        refine wpAnyH_take (i := 0) (v := ?vaU1_0) rfl (by kernel_rfl) (by kernel_rfl) (by kernel_rfl) (fun _ _ _ h => h) (Or.inl ⟨rfl, ?yaU1_0⟩) (by assumption) ?_
        case yaU1_0 => (intro w hSw; (try dsimp only at hSw); go_simp; first | done | with_reducible rfl)
        simp only [List.getElem_toArray, List.getElem_cons_succ, List.getElem_cons_zero, Act.put, List.setIfInBounds_toArray, List.set_cons_zero, List.set_cons_succ]
        refine wpAnyH_take (i := 1) (v := ?vaU1_1) rfl (by kernel_rfl) (by kernel_rfl) (by kernel_rfl) (fun _ _ _ h => h) (Or.inl ⟨rfl, ?yaU1_1⟩) (by assumption) ?_
        case yaU1_1 => (intro w hSw; (try dsimp only at hSw); go_simp; first | done | with_reducible rfl)
        simp only [List.getElem_toArray, List.getElem_cons_succ, List.getElem_cons_zero, Act.put, List.setIfInBounds_toArray, List.set_cons_zero, List.set_cons_succ]
        refine wpAnyH_take (i := 2) (v := ?vaU1_2) rfl (by kernel_rfl) (by kernel_rfl) (by kernel_rfl) (fun _ _ _ h => h) (Or.inl ⟨rfl, ?yaU1_2⟩) (by assumption) ?_
        case yaU1_2 => (intro w hSw; (try dsimp only at hSw); go_simp; first | done | with_reducible rfl)
        simp only [List.getElem_toArray, List.getElem_cons_succ, List.getElem_cons_zero, Act.put, List.setIfInBounds_toArray, List.set_cons_zero, List.set_cons_succ]
        refine wpAnyH_take (i := 3) (v := ?vaU1_3) rfl (by kernel_rfl) (by kernel_rfl) (by kernel_rfl) (fun _ _ _ h => h) (Or.inl ⟨rfl, ?yaU1_3⟩) (by assumption) ?_
        case yaU1_3 => (intro w hSw; (try dsimp only at hSw); go_simp; first | done | with_reducible rfl)
        simp only [List.getElem_toArray, List.getElem_cons_succ, List.getElem_cons_zero, Act.put, List.setIfInBounds_toArray, List.set_cons_zero, List.set_cons_succ]
        refine wpAnyH_take (i := 4) (v := ?vaU1_4) rfl (by kernel_rfl) (by kernel_rfl) (by kernel_rfl) (fun _ _ _ h => h) (Or.inl ⟨rfl, ?yaU1_4⟩) (by assumption) ?_
        case yaU1_4 => (intro w hSw; (try dsimp only at hSw); go_simp; first | done | with_reducible rfl)
        simp only [List.getElem_toArray, List.getElem_cons_succ, List.getElem_cons_zero, Act.put, List.setIfInBounds_toArray, List.set_cons_zero, List.set_cons_succ]
        refine wpAnyH_take (i := 6) (v := ?vaU1_6) rfl (by kernel_rfl) (by kernel_rfl) (by kernel_rfl) (fun _ _ _ h => h) (Or.inl ⟨rfl, ?yaU1_6⟩) (by assumption) ?_
        case yaU1_6 => (intro w hSw; (try dsimp only at hSw); go_simp; first | done | with_reducible rfl)
        simp only [List.getElem_toArray, List.getElem_cons_succ, List.getElem_cons_zero, Act.put, List.setIfInBounds_toArray, List.set_cons_zero, List.set_cons_succ]
        refine wpAnyH_take (i := 7) (v := ?vaU1_7) rfl (by kernel_rfl) (by kernel_rfl) (by kernel_rfl) (fun _ _ _ h => h) (Or.inl ⟨rfl, ?yaU1_7⟩) (by assumption) ?_
        case yaU1_7 => (intro w hSw; (try dsimp only at hSw); go_simp; first | done | with_reducible rfl)
        simp only [List.getElem_toArray, List.getElem_cons_succ, List.getElem_cons_zero, Act.put, List.setIfInBounds_toArray, List.set_cons_zero, List.set_cons_succ]
        refine wpAnyH_ready (rs := [5]) (by kernel_rfl) (by simp) ?_
        refine AllReadyH.cons rfl (fun K hK => ?_) AllReadyH.nil
        go_simp
        refine (hs1.out _).mono ?_
        rintro e w5 ⟨rfl, hb5⟩
        go_wp2_with fail
        refine hK.out _ _ ?_ (fun hHeld => ?_)
        · exact ⟨hHeld.1.step hb5, cell_step hHeld.2.1 hb5, cell_step hHeld.2.2.1 hb5, cell_step hHeld.2.2.2 hb5⟩
        clear hK K
        try simp only [List.getElem_toArray, List.getElem_cons_succ, List.getElem_cons_zero, Act.put, List.setIfInBounds_toArray, List.set_cons_zero, List.set_cons_succ]
        refine wpAnyH_take (i := 8) (v := ?vaU1_8) rfl (by kernel_rfl) (by kernel_rfl) (by kernel_rfl) (fun _ _ _ h => h) (Or.inl ⟨rfl, ?yaU1_8⟩) (by assumption) ?_
        case yaU1_8 => (intro w hSw; (try dsimp only at hSw); go_simp; first | done | with_reducible rfl)
        simp only [List.getElem_toArray, List.getElem_cons_succ, List.getElem_cons_zero, Act.put, List.setIfInBounds_toArray, List.set_cons_zero, List.set_cons_succ]
        refine wpAnyH_take (i := 9) (v := ?vaU1_9) rfl (by kernel_rfl) (by kernel_rfl) (by kernel_rfl) (fun _ _ _ h => h) (Or.inl ⟨rfl, ?yaU1_9⟩) (by assumption) ?_
        case yaU1_9 => (intro w hSw; (try dsimp only at hSw); go_simp; first | done | with_reducible rfl)
        simp only [List.getElem_toArray, List.getElem_cons_succ, List.getElem_cons_zero, Act.put, List.setIfInBounds_toArray, List.set_cons_zero, List.set_cons_succ]
        refine wpAnyH_done (by kernel_rfl) ?_ _
        obtain ⟨hbw', q0', q1', q2'⟩ := hHeld
        clear hbw q0 q1 q2
        go_wp2
        go_roundw
        case rel => exact ⟨k + 1, by omega, by omega, by go_num, hbw', q0', q1', q2'⟩
        case measure => simp [intOf]; omega
      · have g2 : decide (E ≤ M) = false := decide_eq_false fun h => hkg2 (hsp1.1 h)
        have hgk : Hid (g = (k : Int)) := Lib.hid (by omega)
        replace hsp1 := Lib.hid hsp1
        go_wp2_with fail
        refine wp_region_held_drew (S := fun w' => Below w.heap.size w w' ∧ w'.cell? ⟨w.heap.size, 0, none⟩ = some (.int .i64 F) ∧ w'.cell? ⟨w.heap.size, 1, none⟩ = some (.int .i64 L) ∧ w'.cell? ⟨w.heap.size, 2, none⟩ = some (.int .i64 E)) (by kernel_rfl) ?_ (fun hHeld => ?_)
        · exact ⟨hbw.drew, cell_step q0 ((Below.refl _ wr).drew), cell_step q1 ((Below.refl _ wr).drew), cell_step q2 ((Below.refl _ wr).drew)⟩
        refine wpAnyH_take (i := 0) (v := ?vbU2_0) rfl (by kernel_rfl) (by kernel_rfl) (by kernel_rfl) (fun _ _ _ h => h) (Or.inl ⟨rfl, ?ybU2_0⟩) (by assumption) ?_
        case ybU2_0 => (intro w hSw; (try dsimp only at hSw); go_simp; first | done | with_reducible rfl)
        simp only [List.getElem_toArray, List.getElem_cons_succ, List.getElem_cons_zero, Act.put, List.setIfInBounds_toArray, List.set_cons_zero, List.set_cons_succ]
        refine wpAnyH_take (i := 1) (v := ?vbU2_1) rfl (by kernel_rfl) (by kernel_rfl) (by kernel_rfl) (fun _ _ _ h => h) (Or.inl ⟨rfl, ?ybU2_1⟩) (by assumption) ?_
        case ybU2_1 => (intro w hSw; (try dsimp only at hSw); go_simp; first | done | with_reducible rfl)
        simp only [List.getElem_toArray, List.getElem_cons_succ, List.getElem_cons_zero, Act.put, List.setIfInBounds_toArray, List.set_cons_zero, List.set_cons_succ]
        refine wpAnyH_take (i := 2) (v := ?vbU2_2) rfl (by kernel_rfl) (by kernel_rfl) (by kernel_rfl) (fun _ _ _ h => h) (Or.inl ⟨rfl, ?ybU2_2⟩) (by assumption) ?_
        case ybU2_2 => (intro w hSw; (try dsimp only at hSw); go_simp; first | done | with_reducible rfl)
        simp only [List.getElem_toArray, List.getElem_cons_succ, List.getElem_cons_zero, Act.put, List.setIfInBounds_toArray, List.set_cons_zero, List.set_cons_succ]
        refine wpAnyH_take (i := 3) (v := ?vbU2_3) rfl (by kernel_rfl) (by kernel_rfl) (by kernel_rfl) (fun _ _ _ h => h) (Or.inl ⟨rfl, ?ybU2_3⟩) (by assumption) ?_
        case ybU2_3 => (intro w hSw; (try dsimp only at hSw); go_simp; first | done | with_reducible rfl)
        simp only [List.getElem_toArray, List.getElem_cons_succ, List.getElem_cons_zero, Act.put, List.setIfInBounds_toArray, List.set_cons_zero, List.set_cons_succ]
        refine wpAnyH_take (i := 4) (v := ?vbU2_4) rfl (by kernel_rfl) (by kernel_rfl) (by kernel_rfl) (fun _ _ _ h => h) (Or.inl ⟨rfl, ?ybU2_4⟩) (by assumption) ?_
        case ybU2_4 => (intro w hSw; (try dsimp only at hSw); go_simp; first | done | with_reducible rfl)
        simp only [List.getElem_toArray, List.getElem_cons_succ, List.getElem_cons_zero, Act.put, List.setIfInBounds_toArray, List.set_cons_zero, List.set_cons_succ]
        refine wpAnyH_take (i := 6) (v := ?vbU2_6) rfl (by kernel_rfl) (by kernel_rfl) (by kernel_rfl) (fun _ _ _ h => h) (Or.inl ⟨rfl, ?ybU2_6⟩) (by assumption) ?_
        case ybU2_6 => (intro w hSw; (try dsimp only at hSw); go_simp; first | done | with_reducible rfl)
        simp only [List.getElem_toArray, List.getElem_cons_succ, List.getElem_cons_zero, Act.put, List.setIfInBounds_toArray, List.set_cons_zero, List.set_cons_succ]
        refine wpAnyH_take (i := 7) (v := ?vbU2_7) rfl (by kernel_rfl) (by kernel_rfl) (by kernel_rfl) (fun _ _ _ h => h) (Or.inl ⟨rfl, ?ybU2_7⟩) (by assumption) ?_
        case ybU2_7 => (intro w hSw; (try dsimp only at hSw); go_simp; first | done | with_reducible rfl)
        simp only [List.getElem_toArray, List.getElem_cons_succ, List.getElem_cons_zero, Act.put, List.setIfInBounds_toArray, List.set_cons_zero, List.set_cons_succ]
        refine wpAnyH_ready (rs := [5]) (by kernel_rfl) (by simp) ?_
        refine AllReadyH.cons rfl (fun K hK => ?_) AllReadyH.nil
        go_simp
        refine (hs1.out _).mono ?_
        rintro e w5 ⟨rfl, hb5⟩
        go_wp2_with fail
        refine hK.out _ _ ?_ (fun hHeld => ?_)
        · exact ⟨hHeld.1.step hb5, cell_step hHeld.2.1 hb5, cell_step hHeld.2.2.1 hb5, cell_step hHeld.2.2.2 hb5⟩
        clear hK K
        try simp only [List.getElem_toArray, List.getElem_cons_succ, List.getElem_cons_zero, Act.put, List.setIfInBounds_toArray, List.set_cons_zero, List.set_cons_succ]
        refine wpAnyH_take (i := 8) (v := ?vbU2_8) rfl (by kernel_rfl) (by kernel_rfl) (by kernel_rfl) (fun _ _ _ h => h) (Or.inl ⟨rfl, ?ybU2_8⟩) (by assumption) ?_
        case ybU2_8 => (intro w hSw; (try dsimp only at hSw); go_simp; first | done | with_reducible rfl)
        simp only [List.getElem_toArray, List.getElem_cons_succ, List.getElem_cons_zero, Act.put, List.setIfInBounds_toArray, List.set_cons_zero, List.set_cons_succ]
        refine wpAnyH_take (i := 9) (v := ?vbU2_9) rfl (by kernel_rfl) (by kernel_rfl) (by kernel_rfl) (fun _ _ _ h => h) (Or.inl ⟨rfl, ?ybU2_9⟩) (by assumption) ?_
        case ybU2_9 => (intro w hSw; (try dsimp only at hSw); go_simp; first | done | with_reducible rfl)
        simp only [List.getElem_toArray, List.getElem_cons_succ, List.getElem_cons_zero, Act.put, List.setIfInBounds_toArray, List.set_cons_zero, List.set_cons_succ]
        refine wpAnyH_done (by kernel_rfl) ?_ _
        obtain ⟨hbw', q0', q1', q2'⟩ := hHeld
        clear hbw q0 q1 q2
        go_wp2
        go_ret
        exact ⟨ret_i64 hgk.out.symm, hbw'⟩
    · have g1 : decide ((k : Int) < 12) = false := decide_eq_false h12
      have hgk : Hid (g = (k : Int)) := Lib.hid (by omega)
      go_wp2_with fail
      refine wp_region_held_drew (S := fun w' => Below w.heap.size w w' ∧ w'.cell? ⟨w.heap.size, 0, none⟩ = some (.int .i64 F) ∧ w'.cell? ⟨w.heap.size, 1, none⟩ = some (.int .i64 L) ∧ w'.cell? ⟨w.heap.size, 2, none⟩ = some (.int .i64 E)) (by kernel_rfl) ?_ (fun hHeld => ?_)
      · exact ⟨hbw.drew, cell_step q0 ((Below.refl _ wr).drew), cell_step q1 ((Below.refl _ wr).drew), cell_step q2 ((Below.refl _ wr).drew)⟩
      refine wpAnyH_take (i := 0) (v := ?vcU3_0) rfl (by kernel_rfl) (by kernel_rfl) (by kernel_rfl) (fun _ _ _ h => h) (Or.inl ⟨rfl, ?ycU3_0⟩) (by assumption) ?_
      case ycU3_0 => (intro w hSw; (try dsimp only at hSw); go_simp; first | done | with_reducible rfl)
      simp only [List.getElem_toArray, List.getElem_cons_succ, List.getElem_cons_zero, Act.put, List.setIfInBounds_toArray, List.set_cons_zero, List.set_cons_succ]
      refine wpAnyH_take (i := 1) (v := ?vcU3_1) rfl (by kernel_rfl) (by kernel_rfl) (by kernel_rfl) (fun _ _ _ h => h) (Or.inl ⟨rfl, ?ycU3_1⟩) (by assumption) ?_
      case ycU3_1 => (intro w hSw; (try dsimp only at hSw); go_simp; first | done | with_reducible rfl)
      simp only [List.getElem_toArray, List.getElem_cons_succ, List.getElem_cons_zero, Act.put, List.setIfInBounds_toArray, List.set_cons_zero, List.set_cons_succ]
      refine wpAnyH_take (i := 2) (v := ?vcU3_2) rfl (by kernel_rfl) (by kernel_rfl) (by kernel_rfl) (fun _ _ _ h => h) (Or.inl ⟨rfl, ?ycU3_2⟩) (by assumption) ?_
      case ycU3_2 => (intro w hSw; (try dsimp only at hSw); go_simp; first | done | with_reducible rfl)
      simp only [List.getElem_toArray, List.getElem_cons_succ, List.getElem_cons_zero, Act.put, List.setIfInBounds_toArray, List.set_cons_zero, List.set_cons_succ]
      refine wpAnyH_take (i := 3) (v := undef) rfl (by kernel_rfl) (by kernel_rfl) (by kernel_rfl) (fun _ _ _ h => h) (Or.inr ⟨rfl, rfl⟩) (by assumption) ?_
      simp only [List.getElem_toArray, List.getElem_cons_succ, List.getElem_cons_zero, Act.put, List.setIfInBounds_toArray, List.set_cons_zero, List.set_cons_succ]
      refine wpAnyH_take (i := 4) (v := undef) rfl (by kernel_rfl) (by kernel_rfl) (by kernel_rfl) (fun _ _ _ h => h) (Or.inr ⟨rfl, rfl⟩) (by assumption) ?_
      simp only [List.getElem_toArray, List.getElem_cons_succ, List.getElem_cons_zero, Act.put, List.setIfInBounds_toArray, List.set_cons_zero, List.set_cons_succ]
      refine wpAnyH_take (i := 5) (v := undef) rfl (by kernel_rfl) (by kernel_rfl) (by kernel_rfl) (fun _ _ _ h => h) (Or.inr ⟨rfl, rfl⟩) (by assumption) ?_
      simp only [List.getElem_toArray, List.getElem_cons_succ, List.getElem_cons_zero, Act.put, List.setIfInBounds_toArray, List.set_cons_zero, List.set_cons_succ]
      refine wpAnyH_take (i := 6) (v := undef) rfl (by kernel_rfl) (by kernel_rfl) (by kernel_rfl) (fun _ _ _ h => h) (Or.inr ⟨rfl, rfl⟩) (by assumption) ?_
      simp only [List.getElem_toArray, List.getElem_cons_succ, List.getElem_cons_zero, Act.put, List.setIfInBounds_toArray, List.set_cons_zero, List.set_cons_succ]
      refine wpAnyH_take (i := 7) (v := undef) rfl (by kernel_rfl) (by kernel_rfl) (by kernel_rfl) (fun _ _ _ h => h) (Or.inr ⟨rfl, rfl⟩) (by assumption) ?_
      simp only [List.getElem_toArray, List.getElem_cons_succ, List.getElem_cons_zero, Act.put, List.setIfInBounds_toArray, List.set_cons_zero, List.set_cons_succ]
      refine wpAnyH_take (i := 8) (v := undef) rfl (by kernel_rfl) (by kernel_rfl) (by kernel_rfl) (fun _ _ _ h => h) (Or.inr ⟨rfl, rfl⟩) (by assumption) ?_
      simp only [List.getElem_toArray, List.getElem_cons_succ, List.getElem_cons_zero, Act.put, List.setIfInBounds_toArray, List.set_cons_zero, List.set_cons_succ]
      refine wpAnyH_take (i := 9) (v := ?vcU3_9) rfl (by kernel_rfl) (by kernel_rfl) (by kernel_rfl) (fun _ _ _ h => h) (Or.inl ⟨rfl, ?ycU3_9⟩) (by assumption) ?_
      case ycU3_9 => (intro w hSw; (try dsimp only at hSw); go_simp; first | done | with_reducible rfl)
      simp only [List.getElem_toArray, List.getElem_cons_succ, List.getElem_cons_zero, Act.put, List.setIfInBounds_toArray, List.set_cons_zero, List.set_cons_succ]
      refine wpAnyH_done (by kernel_rfl) ?_ _
      obtain ⟨hbw', q0', q1', q2'⟩ := hHeld
      clear hbw q0 q1 q2
      go_wp2
      go_ret
      exact ⟨ret_i64 hgk.out.symm, hbw'⟩
set_option maxHeartbeats 1600000 in
theorem sa13_impl (c : CarbonD) (s : Int) (w : World) (hg : c.good) (hwf : (Lit.int .i64 s).wf = true) :
    Calls Try.prog 8 #[.agg #[.int .i64 c.force, .int .i64 c.loss, .int .i64 c.least], .int .i64 s] w fun e w' => e = .returned (.tuple #[.int .i64 (saR c s).1, .int .i64 (saR c s).2]) ∧ Below w.heap.size w w' := by
  clear hg hwf
  generalize hr : saR c s = r
  replace hr := Lib.hid hr.symm
  cases h1 : caB c with
  | false =>
    have hb : Hid (r = (0, 1)) := Lib.hid (by rw [hr.out, saR, h1]; rfl)
    have hc := Lib.hid (fun W => vc13i c h1 W)
    clear h1 hr
    obtain ⟨F, L, E⟩ := c
    go_enter Try.func8, Try.ntmps8
    go_wp2_with fail
    refine (hc.out _).mono ?_
    rintro e w1 ⟨rfl, hb1⟩
    go_wp2
    go_ret2
    exact ⟨ret8_2 hb.out, (below_a1 _ _).step hb1⟩
  | true =>
    have hc := Lib.hid (fun W => vc13i c h1 W)
    cases h2 : inR s 0 11 with
    | false =>
      have hb : Hid (r = (0, 2)) := Lib.hid (by rw [hr.out, saR, h1, h2]; rfl)
      have hc2 := Lib.hid (fun W => in8_impl h2 W)
      clear h1 h2 hr
      obtain ⟨F, L, E⟩ := c
      go_enter Try.func8, Try.ntmps8
      go_wp2_with fail
      refine (hc.out _).mono ?_
      rintro e w1 ⟨rfl, hb1⟩
      go_wp2_with fail
      refine (hc2.out _).mono ?_
      rintro e w2 ⟨rfl, rfl⟩
      go_wp2
      go_ret2
      exact ⟨ret8_2 hb.out, (below_a1 _ _).step hb1⟩
    | true =>
      have hc2 := Lib.hid (fun W => in8_impl h2 W)
      have hb : Hid (r = (max 0 (c.force - s * c.loss), 0)) := Lib.hid (by rw [hr.out, saR, h1, h2, if_pos rfl, if_pos rfl])
      obtain ⟨⟨a, b⟩, ⟨d, e'⟩, _⟩ := caB_iff.1 h1
      obtain ⟨s0, s1⟩ := inR_iff.1 h2
      have hm := mul_in (a := s) (b := c.loss) (A := 11) (B := 1000) s0 s1 (by omega) e'
      have hmx := Lib.hid (fun W => str13i c s (s * c.loss) rfl hm.1 (by omega) (by omega) rfl W)
      obtain ⟨F, L, E⟩ := c
      simp only at *
      obtain ⟨P, hP⟩ : ∃ P, s * L = P := ⟨_, rfl⟩
      rw [hP] at hm hb hmx
      replace hP := Lib.hid hP
      generalize max 0 (F - P) = M at *
      clear h1 h2 hr
      go_enter Try.func8, Try.ntmps8
      go_wp2_with fail
      refine (hc.out _).mono ?_
      rintro e w1 ⟨rfl, hb1⟩
      obtain ⟨q0, q1, q2⟩ := (Box3.new w _ (.int .i64 F) (.int .i64 L) (.int .i64 E)).step hb1
      go_wp2_with fail
      refine (hc2.out _).mono ?_
      rintro e w2 ⟨rfl, rfl⟩
      go_wp2_with fail
      refine (hmx.out _).mono ?_
      rintro e w2 ⟨rfl, hb2⟩
      go_wp2
      go_ret2
      exact ⟨ret8_2 hb.out, ((below_a1 _ _).step hb1).step hb2⟩
set_option maxHeartbeats 1600000 in
theorem gc13_impl (c : CarbonD) (w : World) (hg : c.good) :
    Calls Try.prog 7 #[.agg #[.int .i64 c.force, .int .i64 c.loss, .int .i64 c.least]] w fun e w' => e = .returned (.tuple #[.int .i64 (gcR c).1, .int .i64 (gcR c).2]) ∧ Below w.heap.size w w' := by
  clear hg
  generalize hr : gcR c = r
  replace hr := Lib.hid hr.symm
  have hc := Lib.hid (fun v h W => vc13i c (v := v) h W)
  cases h1 : caB c with
  | false =>
    have hb : Hid (r = (0, 1)) := Lib.hid (by rw [hr.out, gcR, h1]; rfl)
    have hc1 := Lib.hid (fun W => hc.out _ h1 W)
    clear h1 hr hc
    obtain ⟨F, L, E⟩ := c
    go_enter Try.func7, Try.ntmps7
    go_wp2_with fail
    refine (hc1.out _).mono ?_
    rintro e w1 ⟨rfl, hb1⟩
    go_wp2
    go_ret2
    exact ⟨ret8_2 hb.out, (below_a1 _ _).step hb1⟩
  | true =>
    have hb : Hid (r = (goodV c, 0)) := Lib.hid (by rw [hr.out, gcR, if_pos h1])
    have hc1 := Lib.hid (fun W => hc.out _ h1 W)
    have hgd := Lib.hid (fun W => good13i c h1 rfl W)
    generalize goodV c = g at *
    clear h1 hr hc
    obtain ⟨F, L, E⟩ := c
    go_enter Try.func7, Try.ntmps7
    go_wp2_with fail
    refine (hc1.out _).mono ?_
    rintro e w1 ⟨rfl, hb1⟩
    obtain ⟨q0, q1, q2⟩ := (Box3.new w _ (.int .i64 F) (.int .i64 L) (.int .i64 E)).step hb1
    go_wp2_with fail
    refine (hgd.out _).mono ?_
    rintro e w2 ⟨rfl, hb2⟩
    go_wp2
    go_ret2
    exact ⟨ret8_2 hb.out, ((below_a1 _ _).step hb1).step hb2⟩
set_option maxHeartbeats 1600000 in
theorem ff13_impl (c : CarbonD) (n : Int) (w : World) (hg : c.good) (hwf : (Lit.int .i64 n).wf = true) :
    Calls Try.prog 10 #[.agg #[.int .i64 c.force, .int .i64 c.loss, .int .i64 c.least], .int .i64 n] w fun e w' => e = .returned (.tuple #[.int .i64 (ffR c n).1, .int .i64 (ffR c n).2]) ∧ Below w.heap.size w w' := by
  clear hg hwf
  generalize hr : ffR c n = r
  replace hr := Lib.hid hr.symm
  cases h1 : caB c with
  | false =>
    have hb : Hid (r = (0, 1)) := Lib.hid (by rw [hr.out, ffR, h1]; rfl)
    have hc := Lib.hid (fun W => vc13i c h1 W)
    clear h1 hr
    obtain ⟨F, L, E⟩ := c
    go_enter Try.func10, Try.ntmps10
    go_wp2_with fail
    refine (hc.out _).mono ?_
    rintro e w1 ⟨rfl, hb1⟩
    go_wp2
    go_ret2
    exact ⟨ret8_2 hb.out, (below_a1 _ _).step hb1⟩
  | true =>
    have hc := Lib.hid (fun W => vc13i c h1 W)
    cases h2 : inR n 1 12 with
    | false =>
      have hb : Hid (r = (0, 2)) := Lib.hid (by rw [hr.out, ffR, h1, h2]; rfl)
      have hc2 := Lib.hid (fun W => in8_impl h2 W)
      clear h1 h2 hr
      obtain ⟨F, L, E⟩ := c
      go_enter Try.func10, Try.ntmps10
      go_wp2_with fail
      refine (hc.out _).mono ?_
      rintro e w1 ⟨rfl, hb1⟩
      go_wp2_with fail
      refine (hc2.out _).mono ?_
      rintro e w2 ⟨rfl, rfl⟩
      go_wp2
      go_ret2
      exact ⟨ret8_2 hb.out, (below_a1 _ _).step hb1⟩
    | true =>
      have hc2 := Lib.hid (fun W => in8_impl h2 W)
      obtain ⟨⟨a0, a1⟩, ⟨b0, b1⟩, d0, d1⟩ := caB_iff.1 h1
      obtain ⟨s0, s1⟩ := inR_iff.1 h2
      have hm := mul_in (a := n - 1) (b := c.loss) (A := 11) (B := 1000) (by omega) (by omega) (by omega) b1
      have hres : Hid (r = if 1000 < c.least + (n - 1) * c.loss then (0, 5) else (c.least + (n - 1) * c.loss, 0)) := Lib.hid (by rw [hr.out, ffR, h1, h2, if_pos rfl, if_pos rfl])
      clear h1 h2 hr
      obtain ⟨F, L, E⟩ := c
      simp only at *
      have hw0 : IntKind.i64.wrap (n - 1) = n - 1 := IntWalk.i64_in _ (by omega)
      obtain ⟨P, hP⟩ : ∃ P, (n - 1) * L = P := ⟨_, rfl⟩
      rw [hP] at hm hres
      have hw1 : IntKind.i64.wrap ((n - 1) * L) = P := by rw [hP]; exact IntWalk.i64_in _ (by omega)
      obtain ⟨Z, hZ⟩ : ∃ Z, E + P = Z := ⟨_, rfl⟩
      have hw2 : IntKind.i64.wrap (E + P) = Z := by rw [hZ]; exact IntWalk.i64_in _ (by omega)
      rw [hZ] at hres
      replace hP := Lib.hid hP
      replace hZ := Lib.hid hZ
      by_cases h5 : 1000 < Z
      · have hb : Hid (r = (0, 5)) := Lib.hid (by rw [hres.out, if_pos h5])
        have g1 : decide (1000 < Z) = true := decide_eq_true h5
        go_enter Try.func10, Try.ntmps10
        go_wp2_with fail
        refine (hc.out _).mono ?_
        rintro e w1 ⟨rfl, hb1⟩
        obtain ⟨q0, q1, q2⟩ := (Box3.new w _ (.int .i64 F) (.int .i64 L) (.int .i64 E)).step hb1
        go_wp2_with fail
        refine (hc2.out _).mono ?_
        rintro e w2 ⟨rfl, rfl⟩
        go_wp2
        go_ret2
        exact ⟨ret8_2 hb.out, (below_a1 _ _).step hb1⟩
      · have hb : Hid (r = (Z, 0)) := Lib.hid (by rw [hres.out, if_neg h5])
        have g1 : decide (1000 < Z) = false := decide_eq_false h5
        go_enter Try.func10, Try.ntmps10
        go_wp2_with fail
        refine (hc.out _).mono ?_
        rintro e w1 ⟨rfl, hb1⟩
        obtain ⟨q0, q1, q2⟩ := (Box3.new w _ (.int .i64 F) (.int .i64 L) (.int .i64 E)).step hb1
        go_wp2_with fail
        refine (hc2.out _).mono ?_
        rintro e w2 ⟨rfl, rfl⟩
        go_wp2
        go_ret2
        exact ⟨ret8_2 hb.out, (below_a1 _ _).step hb1⟩
set_option maxHeartbeats 1600000 in
theorem typ13i (c : CarbonD) (hok : caB c = true) (n : Int) (h0 : 0 ≤ n) (h1 : n ≤ 500) {t : Int} (ht : typV c n = t) (w : World) :
    Calls Try.prog 23 #[.agg #[.int .i64 c.force, .int .i64 c.loss, .int .i64 c.least], .int .i64 n] w fun e w' => e = .returned (.int .i64 t) ∧ Below w.heap.size w w' := by
  obtain ⟨g0, g1, _, _⟩ := goodV_range hok
  obtain ⟨t0, t1⟩ := typV_range hok h0 h1
  have hgd := Lib.hid (fun W => good13i c hok rfl W)
  rw [ht] at t0 t1
  unfold typV at ht
  generalize goodV c = g at *
  have hw1 : IntKind.i64.wrap (n + g) = n + g := IntWalk.i64_in _ (by omega)
  have hw2 : IntKind.i64.wrap (n + g - 1) = n + g - 1 := IntWalk.i64_in _ (by omega)
  have hz : (g == 0) = false := beq_eq_false_iff_ne.2 (by omega)
  have hz2 : ¬ g = 0 := by omega
  have hw3 : IntKind.i64.wrap t = t := IntWalk.i64_in _ (by omega)
  clear hok
  obtain ⟨F, L, E⟩ := c
  go_enter Try.func23, Try.ntmps23
  go_wp2_with fail
  refine (hgd.out _).mono ?_
  rintro e w1 ⟨rfl, hb1⟩
  go_wp2
  go_ret
  exact ⟨rfl, (below_a1 _ _).step hb1⟩
set_option maxHeartbeats 1600000 in
theorem tf13_impl (c : CarbonD) (n : Int) (w : World) (hg : c.good) (hwf : (Lit.int .i64 n).wf = true) :
    Calls Try.prog 11 #[.agg #[.int .i64 c.force, .int .i64 c.loss, .int .i64 c.least], .int .i64 n] w fun e w' => e = .returned (.tuple #[.int .i64 (tfR c n).1, .int .i64 (tfR c n).2]) ∧ Below w.heap.size w w' := by
  clear hg hwf
  generalize hr : tfR c n = r
  replace hr := Lib.hid hr.symm
  cases h1 : caB c with
  | false =>
    have hb : Hid (r = (0, 1)) := Lib.hid (by rw [hr.out, tfR, h1]; rfl)
    have hc := Lib.hid (fun W => vc13i c h1 W)
    clear h1 hr
    obtain ⟨F, L, E⟩ := c
    go_enter Try.func11, Try.ntmps11
    go_wp2_with fail
    refine (hc.out _).mono ?_
    rintro e w1 ⟨rfl, hb1⟩
    go_wp2
    go_ret2
    exact ⟨ret8_2 hb.out, (below_a1 _ _).step hb1⟩
  | true =>
    have hc := Lib.hid (fun W => vc13i c h1 W)
    cases h2 : inR n 0 500 with
    | false =>
      have hb : Hid (r = (0, 2)) := Lib.hid (by rw [hr.out, tfR, h1, h2]; rfl)
      have hc2 := Lib.hid (fun W => many13i h2 W)
      clear h1 h2 hr
      obtain ⟨F, L, E⟩ := c
      go_enter Try.func11, Try.ntmps11
      go_wp2_with fail
      refine (hc.out _).mono ?_
      rintro e w1 ⟨rfl, hb1⟩
      go_wp2_with fail
      refine (hc2.out _).mono ?_
      rintro e w2 ⟨rfl, rfl⟩
      go_wp2
      go_ret2
      exact ⟨ret8_2 hb.out, (below_a1 _ _).step hb1⟩
    | true =>
      have hc2 := Lib.hid (fun W => many13i h2 W)
      obtain ⟨s0, s1⟩ := inR_iff.1 h2
      have hb : Hid (r = (typV c n, 0)) := Lib.hid (by rw [hr.out, tfR, h1, h2, if_pos rfl, if_pos rfl])
      have hty := Lib.hid (fun W => typ13i c h1 n s0 s1 rfl W)
      generalize typV c n = t at *
      clear h1 h2 hr
      obtain ⟨F, L, E⟩ := c
      go_enter Try.func11, Try.ntmps11
      go_wp2_with fail
      refine (hc.out _).mono ?_
      rintro e w1 ⟨rfl, hb1⟩
      obtain ⟨q0, q1, q2⟩ := (Box3.new w _ (.int .i64 F) (.int .i64 L) (.int .i64 E)).step hb1
      go_wp2_with fail
      refine (hc2.out _).mono ?_
      rintro e w2 ⟨rfl, rfl⟩
      go_wp2_with fail
      refine (hty.out _).mono ?_
      rintro e w2 ⟨rfl, hb2⟩
      go_wp2
      go_ret2
      exact ⟨ret8_2 hb.out, ((below_a1 _ _).step hb1).step hb2⟩
end Go.Proofs.Ytlnhjknpeafgoaa
