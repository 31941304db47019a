/- Carriages: whether a carriage, acts, and what stands on a line are valid: the model's functions and the program's. -/
import Derived.Test.YtphhpmnigchooaaCar0
import Derived.Deep.RegionHeld3
namespace Go.Proofs.Ytphhpmnigchooaa
open Go.RowKit Go.ChangeShapes Go.WideShapes Go.Deep
set_option linter.unusedVariables false
set_option linter.unusedSimpArgs false

set_option maxRecDepth 100000 in
theorem car_spec (c : CarriageD) {v : Bool} (h : carOk c = v) (w : World) :
    Calls Try.prog 20 #[.agg #[.int .i64 c.left, .int .i64 c.right, .int .i64 c.bell]] w fun e w' => e = .returned (.bool v) ∧ Below w.heap.size w w' := by
  obtain ⟨left, right, bell⟩ := c
  cases h0 : isIn left 0 300 with
  | false =>
    have hres : Hid (v = false) := Lib.hid (by rw [← h]; simp [carOk, h0])
    clear h
    replace h0 := Lib.hid h0
    go_enter Try.func20, Try.ntmps20
    go_wp2_with fail
    refine (in_spec h0.out _).mono ?_
    rintro e w' ⟨rfl, rfl⟩
    go_wp2
    go_ret
    exact ⟨ret_bo hres.out.symm, below_a1 _ _⟩
  | true =>
    cases h1 : isIn right left 300 with
    | false =>
      have hres : Hid (v = false) := Lib.hid (by rw [← h]; simp [carOk, h0, h1])
      clear h
      replace h0 := Lib.hid h0
      replace h1 := Lib.hid h1
      go_enter Try.func20, Try.ntmps20
      go_wp2_with fail
      refine (in_spec h0.out _).mono ?_
      rintro e w' ⟨rfl, rfl⟩
      go_wp2_with fail
      refine (in_spec h1.out _).mono ?_
      rintro e w' ⟨rfl, rfl⟩
      go_wp2
      go_ret
      exact ⟨ret_bo hres.out.symm, below_a1 _ _⟩
    | true =>
      have f0 := isIn_iff.1 h0
      have f1 := isIn_iff.1 h1
      by_cases h2 : 20 ≤ right - left
      · have hres : Hid (v = isIn bell left right) := Lib.hid (by rw [← h]; simp [carOk, h0, h1, h2])
        have g2 : decide (20 ≤ right - left) = true := decide_eq_true h2
        clear h h2
        replace h0 := Lib.hid h0
        replace h1 := Lib.hid h1
        go_enter Try.func20, Try.ntmps20
        go_wp2_with fail
        refine (in_spec h0.out _).mono ?_
        rintro e w' ⟨rfl, rfl⟩
        go_wp2_with fail
        refine (in_spec h1.out _).mono ?_
        rintro e w' ⟨rfl, rfl⟩
        go_wp2_with fail
        refine (in_spec rfl _).mono ?_
        rintro e w' ⟨rfl, rfl⟩
        go_wp2
        go_ret
        exact ⟨ret_bo hres.out.symm, below_a1 _ _⟩
      · have hres : Hid (v = false) := Lib.hid (by rw [← h]; simp [carOk, h0, h1, h2])
        have g2 : decide (20 ≤ right - left) = false := decide_eq_false h2
        clear h h2
        replace h0 := Lib.hid h0
        replace h1 := Lib.hid h1
        go_enter Try.func20, Try.ntmps20
        go_wp2_with fail
        refine (in_spec h0.out _).mono ?_
        rintro e w' ⟨rfl, rfl⟩
        go_wp2_with fail
        refine (in_spec h1.out _).mono ?_
        rintro e w' ⟨rfl, rfl⟩
        go_wp2
        go_ret
        exact ⟨ret_bo hres.out.symm, below_a1 _ _⟩
set_option maxRecDepth 100000 in
theorem car_impl (c : CarriageD) {v : Bool} (h : carOk c = v) (w : World) :
    Calls Try.prog 17 #[.agg #[.int .i64 c.left, .int .i64 c.right, .int .i64 c.bell]] w fun e w' => e = .returned (.bool v) ∧ Below w.heap.size w w' := by
  obtain ⟨left, right, bell⟩ := c
  by_cases h0 : 0 ≤ left
  · have g0 : decide (0 ≤ left) = true := decide_eq_true h0
    by_cases h1 : right ≤ 300
    · have g1 : decide (right ≤ 300) = true := decide_eq_true h1
      by_cases h2 : left ≤ right
      · have g2 : decide (left ≤ right) = true := decide_eq_true h2
        by_cases h3 : 20 ≤ right - left
        · have g3 : decide (20 ≤ right - left) = true := decide_eq_true h3
          have hres : Hid (v = isIn bell left right) := Lib.hid (by rw [← h]; simp [carOk, isIn, h0, h1, h2, h3, show left ≤ 300 by omega])
          clear h
          go_enter Try.func17, Try.ntmps17
          go_wp2_with fail
          refine (in_impl rfl _).mono ?_
          rintro e w' ⟨rfl, rfl⟩
          go_wp2
          go_ret
          exact ⟨ret_bo hres.out.symm, below_a1 _ _⟩
        · have g3 : decide (20 ≤ right - left) = false := decide_eq_false h3
          have hres : Hid (v = false) := Lib.hid (by rw [← h]; simp [carOk, isIn, h3])
          clear h
          go_enter Try.func17, Try.ntmps17
          go_wp2
          go_ret
          exact ⟨ret_bo hres.out.symm, below_a1 _ _⟩
      · have g2 : decide (left ≤ right) = false := decide_eq_false h2
        have hres : Hid (v = false) := Lib.hid (by rw [← h]; simp [carOk, isIn, h2])
        clear h
        go_enter Try.func17, Try.ntmps17
        go_wp2
        go_ret
        exact ⟨ret_bo hres.out.symm, below_a1 _ _⟩
    · have g1 : decide (right ≤ 300) = false := decide_eq_false h1
      have hres : Hid (v = false) := Lib.hid (by rw [← h]; simp [carOk, isIn, h1])
      clear h
      go_enter Try.func17, Try.ntmps17
      go_wp2
      go_ret
      exact ⟨ret_bo hres.out.symm, below_a1 _ _⟩
  · have g0 : decide (0 ≤ left) = false := decide_eq_false h0
    have hres : Hid (v = false) := Lib.hid (by rw [← h]; simp [carOk, isIn, h0])
    clear h
    go_enter Try.func17, Try.ntmps17
    go_wp2
    go_ret
    exact ⟨ret_bo hres.out.symm, below_a1 _ _⟩

end Go.Proofs.Ytphhpmnigchooaa
