/- Copies: the model's functions on carbon and ways. -/
import Derived.Test.YtomnnhmhmehdjaaCp0
namespace Go.Proofs.Ytomnnhmhmehdjaa
open Go.RowKit Go.ChangeShapes Go.WideShapes Go.Deep
set_option linter.unusedVariables false
set_option linter.unusedSimpArgs false

theorem ok13 (c : CarbonD) {v : Bool} (h : caB c = v) (w : World) :
    Calls Try.prog 86 #[.agg #[.int .i64 c.force, .int .i64 c.loss, .int .i64 c.least]] w fun e w' => e = .returned (.bool v) ∧ Below w.heap.size w w' := by
  obtain ⟨force, loss, least⟩ := c
  cases h0 : inR force 1 1000 with
  | false =>
    have hres : Hid (v = false) := Lib.hid (by rw [← h]; simp [caB, h0])
    clear h
    replace h0 := Lib.hid h0
    go_enter Try.func86, Try.ntmps86
    go_wp2_with fail
    refine (in8_spec h0.out _).mono ?_
    rintro e w' ⟨rfl, rfl⟩
    go_wp2
    go_ret
    exact ⟨ret_bo hres.out.symm, below_a1 _ _⟩
  | true =>
    cases h1 : inR loss 1 1000 with
    | false =>
      have hres : Hid (v = false) := Lib.hid (by rw [← h]; simp [caB, h0, h1])
      clear h
      replace h0 := Lib.hid h0
      replace h1 := Lib.hid h1
      go_enter Try.func86, Try.ntmps86
      go_wp2_with fail
      refine (in8_spec h0.out _).mono ?_
      rintro e w' ⟨rfl, rfl⟩
      go_wp2_with fail
      refine (in8_spec h1.out _).mono ?_
      rintro e w' ⟨rfl, rfl⟩
      go_wp2
      go_ret
      exact ⟨ret_bo hres.out.symm, below_a1 _ _⟩
    | true =>
      cases h2 : inR least 1 force with
      | false =>
        have hres : Hid (v = false) := Lib.hid (by rw [← h]; simp [caB, h0, h1, h2])
        clear h
        replace h0 := Lib.hid h0
        replace h1 := Lib.hid h1
        replace h2 := Lib.hid h2
        go_enter Try.func86, Try.ntmps86
        go_wp2_with fail
        refine (in8_spec h0.out _).mono ?_
        rintro e w' ⟨rfl, rfl⟩
        go_wp2_with fail
        refine (in8_spec h1.out _).mono ?_
        rintro e w' ⟨rfl, rfl⟩
        go_wp2_with fail
        refine (in8_spec h2.out _).mono ?_
        rintro e w' ⟨rfl, rfl⟩
        go_wp2
        go_ret
        exact ⟨ret_bo hres.out.symm, below_a1 _ _⟩
      | true =>
        have hres : Hid (v = true) := Lib.hid (by rw [← h]; simp [caB, h0, h1, h2])
        clear h
        replace h0 := Lib.hid h0
        replace h1 := Lib.hid h1
        replace h2 := Lib.hid h2
        go_enter Try.func86, Try.ntmps86
        go_wp2_with fail
        refine (in8_spec h0.out _).mono ?_
        rintro e w' ⟨rfl, rfl⟩
        go_wp2_with fail
        refine (in8_spec h1.out _).mono ?_
        rintro e w' ⟨rfl, rfl⟩
        go_wp2_with fail
        refine (in8_spec h2.out _).mono ?_
        rintro e w' ⟨rfl, rfl⟩
        go_wp2
        go_ret
        exact ⟨ret_bo hres.out.symm, below_a1 _ _⟩
theorem vc13_spec (c : CarbonD) (w : World) (hg : c.good) :
    Calls Try.prog 50 #[.agg #[.int .i64 c.force, .int .i64 c.loss, .int .i64 c.least]] w fun e w' => e = .returned (.bool (caB c)) ∧ Below w.heap.size w w' := by
  have hc := Lib.hid (fun W => ok13 c rfl W)
  clear hg
  generalize caB c = v at *
  obtain ⟨f0, f1, f2⟩ := c
  go_enter Try.func50, Try.ntmps50
  go_wp2_with fail
  refine (hc.out _).mono ?_
  rintro e w1 ⟨rfl, hb1⟩
  go_wp2
  go_ret
  exact ⟨rfl, (below_a1 _ _).step hb1⟩
end Go.Proofs.Ytomnnhmhmehdjaa
