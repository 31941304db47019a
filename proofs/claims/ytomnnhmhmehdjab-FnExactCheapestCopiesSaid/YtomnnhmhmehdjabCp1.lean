/- Copies: the model's functions on carbon and ways. -/
import Derived.Test.YtomnnhmhmehdjabCp0
namespace Go.Proofs.Ytomnnhmhmehdjab
open Go.RowKit Go.ChangeShapes Go.WideShapes Go.Deep
set_option linter.unusedVariables false
set_option linter.unusedSimpArgs false

theorem ok13 (c : CarbonD) {v : Bool} (h : caB c = v) (w : World) :
    Calls Try.prog 41 #[.agg #[.int .i64 c.force, .int .i64 c.loss, .int .i64 c.least]] w fun e w' => e = .returned (.bool v) ∧ Below w.heap.size w w' := by
  obtain ⟨force, loss, least⟩ := c
  cases h0 : inR force 1 1000 with
  | false =>
    have hres : Hid (v = false) := Lib.hid (by rw [← h]; simp [caB, h0])
    clear h
    replace h0 := Lib.hid h0
    go_enter Try.func41, Try.ntmps41
    go_wp2_with fail
    refine (in8_spec h0.out _).mono ?_
    rintro e w' ⟨rfl, rfl⟩
    go_wp2
    go_ret
    exact ⟨ret_bo hres.out.symm, below_a1 _ _⟩
  | true =>
    cases h1 : inR loss 1 1000 with
    | false =>
      have hres : Hid (v = false) := Lib.hid (by rw [← h]; simp [caB, h0, h1])
      clear h
      replace h0 := Lib.hid h0
      replace h1 := Lib.hid h1
      go_enter Try.func41, Try.ntmps41
      go_wp2_with fail
      refine (in8_spec h0.out _).mono ?_
      rintro e w' ⟨rfl, rfl⟩
      go_wp2_with fail
      refine (in8_spec h1.out _).mono ?_
      rintro e w' ⟨rfl, rfl⟩
      go_wp2
      go_ret
      exact ⟨ret_bo hres.out.symm, below_a1 _ _⟩
    | true =>
      cases h2 : inR least 1 force with
      | false =>
        have hres : Hid (v = false) := Lib.hid (by rw [← h]; simp [caB, h0, h1, h2])
        clear h
        replace h0 := Lib.hid h0
        replace h1 := Lib.hid h1
        replace h2 := Lib.hid h2
        go_enter Try.func41, Try.ntmps41
        go_wp2_with fail
        refine (in8_spec h0.out _).mono ?_
        rintro e w' ⟨rfl, rfl⟩
        go_wp2_with fail
        refine (in8_spec h1.out _).mono ?_
        rintro e w' ⟨rfl, rfl⟩
        go_wp2_with fail
        refine (in8_spec h2.out _).mono ?_
        rintro e w' ⟨rfl, rfl⟩
        go_wp2
        go_ret
        exact ⟨ret_bo hres.out.symm, below_a1 _ _⟩
      | true =>
        have hres : Hid (v = true) := Lib.hid (by rw [← h]; simp [caB, h0, h1, h2])
        clear h
        replace h0 := Lib.hid h0
        replace h1 := Lib.hid h1
        replace h2 := Lib.hid h2
        go_enter Try.func41, Try.ntmps41
        go_wp2_with fail
        refine (in8_spec h0.out _).mono ?_
        rintro e w' ⟨rfl, rfl⟩
        go_wp2_with fail
        refine (in8_spec h1.out _).mono ?_
        rintro e w' ⟨rfl, rfl⟩
        go_wp2_with fail
        refine (in8_spec h2.out _).mono ?_
        rintro e w' ⟨rfl, rfl⟩
        go_wp2
        go_ret
        exact ⟨ret_bo hres.out.symm, below_a1 _ _⟩
theorem price13 {n : Int} {v : Bool} (h : inR n 1 10000 = v) (w : World) :
    Calls Try.prog 68 #[.int .i64 n] w fun e w' => e = .returned (.bool v) ∧ w = w' := by
  have hc := Lib.hid (fun W => in8_spec h W)
  clear h
  go_enter Try.func68, Try.ntmps68
  go_wp2_with fail
  refine (hc.out _).mono ?_
  rintro e w1 ⟨rfl, rfl⟩
  go_wp2
  go_ret
  exact ⟨rfl, rfl⟩
theorem many13 {n : Int} {v : Bool} (h : inR n 0 500 = v) (w : World) :
    Calls Try.prog 49 #[.int .i64 n] w fun e w' => e = .returned (.bool v) ∧ w = w' := by
  have hc := Lib.hid (fun W => in8_spec h W)
  clear h
  go_enter Try.func49, Try.ntmps49
  go_wp2_with fail
  refine (hc.out _).mono ?_
  rintro e w1 ⟨rfl, rfl⟩
  go_wp2
  go_ret
  exact ⟨rfl, rfl⟩
theorem ways13 (x : WaysD) {v : Bool} (h : waB x = v) (w : World) :
    Calls Try.prog 39 #[.agg #[.int .i64 x.typing, .int .i64 x.sheet, .int .i64 x.stencil, .int .i64 x.pull]] w fun e w' => e = .returned (.bool v) ∧ Below w.heap.size w w' := by
  obtain ⟨typing, sheet, stencil, pull⟩ := x
  cases h0 : inR typing 1 10000 with
  | false =>
    have hres : Hid (v = false) := Lib.hid (by rw [← h]; simp [waB, h0])
    clear h
    replace h0 := Lib.hid h0
    go_enter Try.func39, Try.ntmps39
    go_wp2_with fail
    refine (price13 h0.out _).mono ?_
    rintro e w' ⟨rfl, rfl⟩
    go_wp2
    go_ret
    exact ⟨ret_bo hres.out.symm, below_a1 _ _⟩
  | true =>
    cases h1 : inR sheet 1 10000 with
    | false =>
      have hres : Hid (v = false) := Lib.hid (by rw [← h]; simp [waB, h0, h1])
      clear h
      replace h0 := Lib.hid h0
      replace h1 := Lib.hid h1
      go_enter Try.func39, Try.ntmps39
      go_wp2_with fail
      refine (price13 h0.out _).mono ?_
      rintro e w' ⟨rfl, rfl⟩
      go_wp2_with fail
      refine (price13 h1.out _).mono ?_
      rintro e w' ⟨rfl, rfl⟩
      go_wp2
      go_ret
      exact ⟨ret_bo hres.out.symm, below_a1 _ _⟩
    | true =>
      cases h2 : inR stencil 1 10000 with
      | false =>
        have hres : Hid (v = false) := Lib.hid (by rw [← h]; simp [waB, h0, h1, h2])
        clear h
        replace h0 := Lib.hid h0
        replace h1 := Lib.hid h1
        replace h2 := Lib.hid h2
        go_enter Try.func39, Try.ntmps39
        go_wp2_with fail
        refine (price13 h0.out _).mono ?_
        rintro e w' ⟨rfl, rfl⟩
        go_wp2_with fail
        refine (price13 h1.out _).mono ?_
        rintro e w' ⟨rfl, rfl⟩
        go_wp2_with fail
        refine (price13 h2.out _).mono ?_
        rintro e w' ⟨rfl, rfl⟩
        go_wp2
        go_ret
        exact ⟨ret_bo hres.out.symm, below_a1 _ _⟩
      | true =>
        cases h3 : inR pull 1 10000 with
        | false =>
          have hres : Hid (v = false) := Lib.hid (by rw [← h]; simp [waB, h0, h1, h2, h3])
          clear h
          replace h0 := Lib.hid h0
          replace h1 := Lib.hid h1
          replace h2 := Lib.hid h2
          replace h3 := Lib.hid h3
          go_enter Try.func39, Try.ntmps39
          go_wp2_with fail
          refine (price13 h0.out _).mono ?_
          rintro e w' ⟨rfl, rfl⟩
          go_wp2_with fail
          refine (price13 h1.out _).mono ?_
          rintro e w' ⟨rfl, rfl⟩
          go_wp2_with fail
          refine (price13 h2.out _).mono ?_
          rintro e w' ⟨rfl, rfl⟩
          go_wp2_with fail
          refine (price13 h3.out _).mono ?_
          rintro e w' ⟨rfl, rfl⟩
          go_wp2
          go_ret
          exact ⟨ret_bo hres.out.symm, below_a1 _ _⟩
        | true =>
          have hres : Hid (v = true) := Lib.hid (by rw [← h]; simp [waB, h0, h1, h2, h3])
          clear h
          replace h0 := Lib.hid h0
          replace h1 := Lib.hid h1
          replace h2 := Lib.hid h2
          replace h3 := Lib.hid h3
          go_enter Try.func39, Try.ntmps39
          go_wp2_with fail
          refine (price13 h0.out _).mono ?_
          rintro e w' ⟨rfl, rfl⟩
          go_wp2_with fail
          refine (price13 h1.out _).mono ?_
          rintro e w' ⟨rfl, rfl⟩
          go_wp2_with fail
          refine (price13 h2.out _).mono ?_
          rintro e w' ⟨rfl, rfl⟩
          go_wp2_with fail
          refine (price13 h3.out _).mono ?_
          rintro e w' ⟨rfl, rfl⟩
          go_wp2
          go_ret
          exact ⟨ret_bo hres.out.symm, below_a1 _ _⟩
theorem vw13_spec (x : WaysD) (w : World) (hg : x.good) :
    Calls Try.prog 13 #[.agg #[.int .i64 x.typing, .int .i64 x.sheet, .int .i64 x.stencil, .int .i64 x.pull]] w fun e w' => e = .returned (.bool (waB x)) ∧ Below w.heap.size w w' := by
  have hc := Lib.hid (fun W => ways13 x rfl W)
  clear hg
  generalize waB x = v at *
  obtain ⟨f0, f1, f2, f3⟩ := x
  go_enter Try.func13, Try.ntmps13
  go_wp2_with fail
  refine (hc.out _).mono ?_
  rintro e w1 ⟨rfl, hb1⟩
  go_wp2
  go_ret
  exact ⟨rfl, (below_a1 _ _).step hb1⟩

end Go.Proofs.Ytomnnhmhmehdjab
