/- Copies: the program's ValidCarbon, for a seat without the other functions. -/
import Derived.Test.YtomnnhmhmehdjaaCp1
namespace Go.Proofs.Ytomnnhmhmehdjaa
open Go.RowKit Go.ChangeShapes Go.WideShapes Go.Deep
set_option linter.unusedVariables false
set_option linter.unusedSimpArgs false

theorem vc13i (c : CarbonD) {v : Bool} (h : caB c = v) (w : World) :
    Calls Try.prog 52 #[.agg #[.int .i64 c.force, .int .i64 c.loss, .int .i64 c.least]] w fun e w' => e = .returned (.bool v) ∧ Below w.heap.size w w' := by
  obtain ⟨force, loss, least⟩ := c
  cases h0 : inR force 1 1000 with
  | false =>
    have hres : Hid (v = false) := Lib.hid (by rw [← h]; simp [caB, h0])
    clear h
    replace h0 := Lib.hid h0
    go_enter Try.func52, Try.ntmps52
    go_wp2_with fail
    refine (in8_impl h0.out _).mono ?_
    rintro e w' ⟨rfl, rfl⟩
    go_wp2
    go_ret
    exact ⟨ret_bo hres.out.symm, below_a1 _ _⟩
  | true =>
    cases h1 : inR loss 1 1000 with
    | false =>
      have hres : Hid (v = false) := Lib.hid (by rw [← h]; simp [caB, h0, h1])
      clear h
      replace h0 := Lib.hid h0
      replace h1 := Lib.hid h1
      go_enter Try.func52, Try.ntmps52
      go_wp2_with fail
      refine (in8_impl h0.out _).mono ?_
      rintro e w' ⟨rfl, rfl⟩
      go_wp2_with fail
      refine (in8_impl h1.out _).mono ?_
      rintro e w' ⟨rfl, rfl⟩
      go_wp2
      go_ret
      exact ⟨ret_bo hres.out.symm, below_a1 _ _⟩
    | true =>
      cases h2 : inR least 1 force with
      | false =>
        have hres : Hid (v = false) := Lib.hid (by rw [← h]; simp [caB, h0, h1, h2])
        clear h
        replace h0 := Lib.hid h0
        replace h1 := Lib.hid h1
        replace h2 := Lib.hid h2
        go_enter Try.func52, Try.ntmps52
        go_wp2_with fail
        refine (in8_impl h0.out _).mono ?_
        rintro e w' ⟨rfl, rfl⟩
        go_wp2_with fail
        refine (in8_impl h1.out _).mono ?_
        rintro e w' ⟨rfl, rfl⟩
        go_wp2_with fail
        refine (in8_impl h2.out _).mono ?_
        rintro e w' ⟨rfl, rfl⟩
        go_wp2
        go_ret
        exact ⟨ret_bo hres.out.symm, below_a1 _ _⟩
      | true =>
        have hres : Hid (v = true) := Lib.hid (by rw [← h]; simp [caB, h0, h1, h2])
        clear h
        replace h0 := Lib.hid h0
        replace h1 := Lib.hid h1
        replace h2 := Lib.hid h2
        go_enter Try.func52, Try.ntmps52
        go_wp2_with fail
        refine (in8_impl h0.out _).mono ?_
        rintro e w' ⟨rfl, rfl⟩
        go_wp2_with fail
        refine (in8_impl h1.out _).mono ?_
        rintro e w' ⟨rfl, rfl⟩
        go_wp2_with fail
        refine (in8_impl h2.out _).mono ?_
        rintro e w' ⟨rfl, rfl⟩
        go_wp2
        go_ret
        exact ⟨ret_bo hres.out.symm, below_a1 _ _⟩
theorem vc13_impl (c : CarbonD) (w : World) (hg : c.good) :
    Calls Try.prog 52 #[.agg #[.int .i64 c.force, .int .i64 c.loss, .int .i64 c.least]] w fun e w' => e = .returned (.bool (caB c)) ∧ Below w.heap.size w w' := vc13i c rfl w
end Go.Proofs.Ytomnnhmhmehdjaa
