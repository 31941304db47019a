/- Boards: the model's functions: whether a board is valid, what a stroke costs. -/
import Derived.Test.YtmnafnjhioeicaaFin0
import Derived.Test.YtmnafnjhioeicaaPlaceO
import Derived.Test.YtmnafnjhioeicaaIntO
import Derived.Deep.QuietTactic
import Derived.BigQuiet
namespace Go.Proofs.Ytmnafnjhioeicaa
open Go.RowKit Go.ChangeShapes Go.WideShapes Go.Deep
set_option linter.unusedVariables false
set_option linter.unusedSimpArgs false

theorem in_spec {n lo hi : Int} {v : Bool} (h : isIn n lo hi = v) (w : World) :
    Calls Try.prog 44 #[.int .i64 n, .int .i64 lo, .int .i64 hi] w fun e w' => e = .returned (.bool v) ∧ w = w' := by
  by_cases h1 : lo ≤ n
  · have hres : Hid (v = decide (n ≤ hi)) := Lib.hid (by rw [← h]; simp [isIn, h1])
    clear h
    go_enter Try.func44, Try.ntmps44
    go_wp2
    go_ret
    exact ⟨ret_bo hres.out.symm, rfl⟩
  · have hres : Hid (v = false) := Lib.hid (by rw [← h]; simp [isIn, h1])
    clear h
    go_enter Try.func44, Try.ntmps44
    go_wp2
    go_ret
    exact ⟨ret_bo hres.out.symm, rfl⟩
theorem in_impl {n lo hi : Int} {v : Bool} (h : isIn n lo hi = v) (w : World) :
    Calls Try.prog 41 #[.int .i64 n, .int .i64 lo, .int .i64 hi] w fun e w' => e = .returned (.bool v) ∧ w = w' := by
  by_cases h1 : lo ≤ n
  · have hres : Hid (v = decide (n ≤ hi)) := Lib.hid (by rw [← h]; simp [isIn, h1])
    clear h
    go_enter Try.func41, Try.ntmps41
    go_wp2
    go_ret
    exact ⟨ret_bo hres.out.symm, rfl⟩
  · have hres : Hid (v = false) := Lib.hid (by rw [← h]; simp [isIn, h1])
    clear h
    go_enter Try.func41, Try.ntmps41
    go_wp2
    go_ret
    exact ⟨ret_bo hres.out.symm, rfl⟩
theorem left_spec {f : Int} {v : Bool} (h : decide (f ≤ 3) = v) (w : World) :
    Calls Try.prog 53 #[.int .i64 f] w fun e w' => e = .returned (.bool v) ∧ w = w' := by
  subst h
  go_enter Try.func53, Try.ntmps53
  go_wp2
  go_ret
  exact ⟨rfl, rfl⟩
theorem size_spec (n : Int) (w : World) (h0 : -1000000 ≤ n) (h1 : n ≤ 1000000) : Calls Try.prog 61 #[.int .i64 n] w fun e w' => e = .returned (.int .i64 (max n (-n))) ∧ w = w' := by
  by_cases h : n < 0
  · have hm : Hid (max n (-n) = -n) := Lib.hid (by omega)
    go_enter Try.func61, Try.ntmps61
    go_wp2
    go_ret
    exact ⟨by rw [hm.out]; rfl, rfl⟩
  · have hm : Hid (max n (-n) = n) := Lib.hid (by omega)
    go_enter Try.func61, Try.ntmps61
    go_wp2
    go_ret
    exact ⟨by rw [hm.out]; rfl, rfl⟩

set_option maxHeartbeats 800000 in
theorem ok7_spec (A : Option Addr) (n c : Nat) (ps : List PlaceD) (w : World) (h : Places w A n ps) (hn : n ≤ 1048576) {v : Bool} (hv : boardOk ps = v) :
    Calls Try.prog 37 #[.slice A n c] w fun e w' => e = .returned (.bool v) ∧ Below w.heap.size w w' := by
  have hl0 := h.1
  have hres : Hid (v = (ps.all placeOk && isIn (n : Int) 1 6)) := Lib.hid (by rw [← hv, boardOk, hl0])
  replace hl0 := Lib.hid hl0
  clear hv
  go_enter Try.func37, Try.ntmps37
  go_wp2
  go_loopw [3] (fun i wr => ∃ k : Nat, k ≤ n ∧ i = .int .i64 k ∧ Below w.heap.size w wr ∧ ps.all placeOk = (ps.drop k).all placeOk) (fun i _ => n - (intOf i).toNat)
  case atStart => exact ⟨0, by omega, rfl, Below.refl _ _, rfl⟩
  case round =>
    obtain ⟨k, hk, rfl, hbw, he⟩ := hrel
    replace he := Lib.hid he
    by_cases hlt : k < n
    · obtain ⟨b, off, x, rfl, hb, hx, c0, c1, c2⟩ := place_at (h.below hbw) hlt
      have hst := Lib.hid (all_drop (p := placeOk) hx.out)
      cases h1 : isIn x.finger 0 7 with
      | false =>
        have hr : Hid (v = false) := Lib.hid (by rw [hres.out, he.out, hst.out, placeOk, h1]; rfl)
        replace h1 := Lib.hid h1
        go_wp2_with fail
        refine (in_spec h1.out _).mono ?_
        rintro e w' ⟨rfl, rfl⟩
        go_wp2
        go_ret
        exact ⟨ret_bo hr.out.symm, hbw.step (below_a1 _ _)⟩
      | true =>
        cases h2 : isIn x.row 0 3 with
        | false =>
          have hr : Hid (v = false) := Lib.hid (by rw [hres.out, he.out, hst.out, placeOk, h1, h2]; rfl)
          replace h1 := Lib.hid h1
          replace h2 := Lib.hid h2
          go_wp2_with fail
          refine (in_spec h1.out _).mono ?_
          rintro e w' ⟨rfl, rfl⟩
          go_wp2_with fail
          refine (in_spec h2.out _).mono ?_
          rintro e w' ⟨rfl, rfl⟩
          go_wp2
          go_ret
          exact ⟨ret_bo hr.out.symm, hbw.step (below_a1 _ _)⟩
        | true =>
          cases h3 : isIn x.effort 0 50 with
          | false =>
            have hr : Hid (v = false) := Lib.hid (by rw [hres.out, he.out, hst.out, placeOk, h1, h2, h3]; rfl)
            replace h1 := Lib.hid h1
            replace h2 := Lib.hid h2
            replace h3 := Lib.hid h3
            go_wp2_with fail
            refine (in_spec h1.out _).mono ?_
            rintro e w' ⟨rfl, rfl⟩
            go_wp2_with fail
            refine (in_spec h2.out _).mono ?_
            rintro e w' ⟨rfl, rfl⟩
            go_wp2_with fail
            refine (in_spec h3.out _).mono ?_
            rintro e w' ⟨rfl, rfl⟩
            go_wp2
            go_ret
            exact ⟨ret_bo hr.out.symm, hbw.step (below_a1 _ _)⟩
          | true =>
            have hnext : Hid (ps.all placeOk = (ps.drop (k + 1)).all placeOk) := Lib.hid (by rw [he.out, hst.out, placeOk, h1, h2, h3]; rfl)
            replace h1 := Lib.hid h1
            replace h2 := Lib.hid h2
            replace h3 := Lib.hid h3
            go_wp2_with fail
            refine (in_spec h1.out _).mono ?_
            rintro e w' ⟨rfl, rfl⟩
            go_wp2_with fail
            refine (in_spec h2.out _).mono ?_
            rintro e w' ⟨rfl, rfl⟩
            go_wp2_with fail
            refine (in_spec h3.out _).mono ?_
            rintro e w' ⟨rfl, rfl⟩
            go_wp2
            go_roundw
            case rel => exact ⟨k + 1, by omega, by go_num, hbw.step (below_a1 _ _), hnext.out⟩
            case measure => simp [intOf]; omega
    · obtain rfl : k = n := by omega
      have hr : Hid (v = isIn (k : Int) 1 6) := Lib.hid (by rw [hres.out, he.out, all_end (by rw [hl0.out]; exact Nat.le_refl _)]; rfl)
      have hin := Lib.hid (fun W => in_spec (n := (k : Int)) (lo := 1) (hi := 6) rfl W)
      clear hres
      generalize isIn (k : Int) 1 6 = u at *
      go_wp2_with fail
      refine (hin.out _).mono ?_
      rintro e w' ⟨rfl, rfl⟩
      go_wp2
      go_ret
      exact ⟨ret_bo hr.out.symm, hbw⟩
theorem vb_spec (A : Option Addr) (n c : Nat) (ps : List PlaceD) (w : World) (h : Places w A n ps) (hn : n ≤ 1048576) (hg : ∀ x ∈ ps, x.good) :
    Calls Try.prog 12 #[.slice A n c] w fun e w' => e = .returned (.bool (boardOk ps)) ∧ Below w.heap.size w w' := by
  have hc := Lib.hid (fun (W : World) (hW : Places W A n ps) => ok7_spec A n c ps W hW hn rfl)
  generalize boardOk ps = v at *
  clear hg
  go_enter Try.func12, Try.ntmps12
  go_wp2_with fail
  refine (hc.out _ h).mono ?_
  rintro e w1 ⟨rfl, hb1⟩
  go_wp2
  go_ret
  exact ⟨rfl, hb1⟩

set_option maxHeartbeats 1600000 in
theorem cost_spec (A : Option Addr) (n c : Nat) (ps : List PlaceD) (w : World) (h : Places w A n ps) (hok : boardOk ps = true) (a b : Nat) (ha : a < n) (hb : b < n) {v : Int} (hv : costI ps a b = v) :
    Calls Try.prog 45 #[.slice A n c, .int .i64 a, .int .i64 b] w fun e w' => e = .returned (.int .i64 v) ∧ Below w.heap.size w w' := by
  have hn6 : n ≤ 6 := by have := (boardOk_iff.1 hok).2.2; rw [h.1] at this; exact this
  obtain ⟨B, off, x, rfl, hB, hx, c0, c1, c2⟩ := place_at h ha
  obtain ⟨B', off', y, hBe, hB', hy, d0, d1, d2⟩ := place_at h hb
  cases hBe
  have ex := plc_of hx.out
  have ey := plc_of hy.out
  have okx := placeOk_iff.1 (ex ▸ plc_ok hok a)
  have oky := placeOk_iff.1 (ey ▸ plc_ok hok b)
  have hA : (a : Int) < n := by omega
  have hA0 : (0 : Int) ≤ (a : Int) := by omega
  have hBn : (b : Int) < n := by omega
  have hB0 : (0 : Int) ≤ (b : Int) := by omega
  by_cases hab : a = b
  · subst hab
    obtain rfl : x = y := Option.some.inj (hx.out.symm.trans hy.out)
    clear d0 d1 d2 hy ey oky
    have hr : Hid (v = x.effort) := Lib.hid (by rw [← hv, costI, reachI, if_pos rfl, ex]; omega)
    clear hv ex okx
    go_enter Try.func45, Try.ntmps45
    go_wp2
    go_ret
    exact ⟨ret_i64 hr.out.symm, below_a2 _ _ _⟩
  · have g0 : ((a : Int) == (b : Int)) = false := beq_eq_false_iff_ne.2 (by omega)
    by_cases hf : x.finger = y.finger
    · have hr : Hid (v = y.effort + 10 + 5 * max (x.row - y.row) (-(x.row - y.row))) := Lib.hid (by
        rw [← hv, costI, reachI, if_neg hab, ex, ey, if_pos hf]
        omega)
      have hsz := Lib.hid (fun W => size_spec (x.row - y.row) W (by omega) (by omega))
      have g1 : (x.finger == y.finger) = true := beq_iff_eq.2 hf
      have hm : 0 ≤ max (x.row - y.row) (-(x.row - y.row)) ∧ max (x.row - y.row) (-(x.row - y.row)) ≤ 3 := by omega
      have s1 : IntKind.i64.wrap (x.row - y.row) = x.row - y.row := IntWalk.i64_in _ (by omega)
      generalize max (x.row - y.row) (-(x.row - y.row)) = m at *
      have s2 : IntKind.i64.wrap (y.effort + 10) = y.effort + 10 := IntWalk.i64_in _ (by omega)
      have s3 : IntKind.i64.wrap (5 * m) = 5 * m := IntWalk.i64_in _ (by omega)
      have s4 : IntKind.i64.wrap (y.effort + 10 + 5 * m) = y.effort + 10 + 5 * m := IntWalk.i64_in _ (by omega)
      clear hv ex ey okx oky hf hm hab
      go_enter Try.func45, Try.ntmps45
      go_wp2_with fail
      go_quiet ((go_at_call 61; refine quiet_l (hsz.out _)))
      go_wp2
      go_ret
      exact ⟨ret_i64 hr.out.symm, below_drewN (below_a2 _ _ _) _⟩
    · have g1 : (x.finger == y.finger) = false := beq_eq_false_iff_ne.2 hf
      have h1 := Lib.hid (fun W => left_spec (f := x.finger) rfl W)
      have h2 := Lib.hid (fun W => left_spec (f := y.finger) rfl W)
      have hr : Hid (v = y.effort + (if decide (x.finger ≤ 3) = decide (y.finger ≤ 3) then 2 else 0)) := Lib.hid (by rw [← hv, costI, reachI, if_neg hab, ex, ey, if_neg hf])
      generalize decide (x.finger ≤ 3) = p at *
      generalize decide (y.finger ≤ 3) = q at *
      have s2 : IntKind.i64.wrap (y.effort + 2) = y.effort + 2 := IntWalk.i64_in _ (by omega)
      by_cases hpq : p = q
      · have hr' : Hid (v = y.effort + 2) := Lib.hid (by rw [hr.out, if_pos hpq])
        have g2 : (p == q) = true := beq_iff_eq.2 hpq
        clear hv ex ey okx oky hf hab hpq hr
        go_enter Try.func45, Try.ntmps45
        go_wp2_with fail
        go_quiet (first | (go_at_call 53; refine quiet_l (h1.out _)) | (go_at_call 53; refine quiet_l (h2.out _)))
        go_wp2
        go_ret
        exact ⟨ret_i64 hr'.out.symm, below_drewN (below_a2 _ _ _) _⟩
      · have hr' : Hid (v = y.effort) := Lib.hid (by rw [hr.out, if_neg hpq]; omega)
        have g2 : (p == q) = false := beq_eq_false_iff_ne.2 hpq
        clear hv ex ey okx oky hf hab hpq hr
        go_enter Try.func45, Try.ntmps45
        go_wp2_with fail
        go_quiet (first | (go_at_call 53; refine quiet_l (h1.out _)) | (go_at_call 53; refine quiet_l (h2.out _)))
        go_wp2
        go_ret
        exact ⟨ret_i64 hr'.out.symm, below_drewN (below_a2 _ _ _) _⟩
end Go.Proofs.Ytmnafnjhioeicaa
