/- Baskets: whether a number lies between two others, whether a basket is valid, how long two bars wait: the model's functions and the program's. -/
import Derived.Test.YtbhiimleagldgaaBars0
import Derived.Test.YtbhiimleagldgaaOwn0
import Derived.Test.YtbhiimleagldgaaOpen0
import Derived.Deep.QuietTactic
import Derived.BigQuiet
namespace Go.Proofs.Ytbhiimleagldgaa
open Go.RowKit Go.ChangeShapes Go.WideShapes Go.Deep
set_option linter.unusedVariables false
set_option linter.unusedSimpArgs false

theorem in_spec {n lo hi : Int} {v : Bool} (h : isIn n lo hi = v) (w : World) :
    Calls Try.prog 49 #[.int .i64 n, .int .i64 lo, .int .i64 hi] w fun e w' => e = .returned (.bool v) ∧ w = w' := by
  by_cases h1 : lo ≤ n
  · have hres : Hid (v = decide (n ≤ hi)) := Lib.hid (by rw [← h]; simp [isIn, h1])
    clear h
    go_enter Try.func49, Try.ntmps49
    go_wp2
    go_ret
    exact ⟨ret_bo hres.out.symm, rfl⟩
  · have hres : Hid (v = false) := Lib.hid (by rw [← h]; simp [isIn, h1])
    clear h
    go_enter Try.func49, Try.ntmps49
    go_wp2
    go_ret
    exact ⟨ret_bo hres.out.symm, rfl⟩
theorem in_impl {n lo hi : Int} {v : Bool} (h : isIn n lo hi = v) (w : World) :
    Calls Try.prog 34 #[.int .i64 n, .int .i64 lo, .int .i64 hi] w fun e w' => e = .returned (.bool v) ∧ w = w' := by
  by_cases h1 : lo ≤ n
  · have hres : Hid (v = decide (n ≤ hi)) := Lib.hid (by rw [← h]; simp [isIn, h1])
    clear h
    go_enter Try.func34, Try.ntmps34
    go_wp2
    go_ret
    exact ⟨ret_bo hres.out.symm, rfl⟩
  · have hres : Hid (v = false) := Lib.hid (by rw [← h]; simp [isIn, h1])
    clear h
    go_enter Try.func34, Try.ntmps34
    go_wp2
    go_ret
    exact ⟨ret_bo hres.out.symm, rfl⟩
set_option maxRecDepth 100000 in
theorem ok_impl (b : BasketD) {v : Bool} (h : basketOk b = v) (w : World) :
    Calls Try.prog 27 #[.agg #[.int .i64 b.bars, .int .i64 b.rise, .int .i64 b.fall, .int .i64 b.clear, .int .i64 b.near]] w fun e w' => e = .returned (.bool v) ∧ Below w.heap.size w w' := by
  obtain ⟨bars, rise, fall, clear, near⟩ := b
  cases h0 : isIn bars 2 60 with
  | false =>
    have hres : Hid (v = false) := Lib.hid (by rw [← h]; simp [basketOk, h0])
    clear h
    replace h0 := Lib.hid h0
    go_enter Try.func27, Try.ntmps27
    go_wp2_with fail
    refine (in_impl h0.out _).mono ?_
    rintro e w' ⟨rfl, rfl⟩
    go_wp2
    go_ret
    exact ⟨ret_bo hres.out.symm, below_a1 _ _⟩
  | true =>
    cases h1 : isIn rise 1 100 with
    | false =>
      have hres : Hid (v = false) := Lib.hid (by rw [← h]; simp [basketOk, h0, h1])
      clear h
      replace h0 := Lib.hid h0
      replace h1 := Lib.hid h1
      go_enter Try.func27, Try.ntmps27
      go_wp2_with fail
      refine (in_impl h0.out _).mono ?_
      rintro e w' ⟨rfl, rfl⟩
      go_wp2_with fail
      refine (in_impl h1.out _).mono ?_
      rintro e w' ⟨rfl, rfl⟩
      go_wp2
      go_ret
      exact ⟨ret_bo hres.out.symm, below_a1 _ _⟩
    | true =>
      cases h2 : isIn fall 1 100 with
      | false =>
        have hres : Hid (v = false) := Lib.hid (by rw [← h]; simp [basketOk, h0, h1, h2])
        clear h
        replace h0 := Lib.hid h0
        replace h1 := Lib.hid h1
        replace h2 := Lib.hid h2
        go_enter Try.func27, Try.ntmps27
        go_wp2_with fail
        refine (in_impl h0.out _).mono ?_
        rintro e w' ⟨rfl, rfl⟩
        go_wp2_with fail
        refine (in_impl h1.out _).mono ?_
        rintro e w' ⟨rfl, rfl⟩
        go_wp2_with fail
        refine (in_impl h2.out _).mono ?_
        rintro e w' ⟨rfl, rfl⟩
        go_wp2
        go_ret
        exact ⟨ret_bo hres.out.symm, below_a1 _ _⟩
      | true =>
        cases h3 : isIn clear 1 100 with
        | false =>
          have hres : Hid (v = false) := Lib.hid (by rw [← h]; simp [basketOk, h0, h1, h2, h3])
          clear h
          replace h0 := Lib.hid h0
          replace h1 := Lib.hid h1
          replace h2 := Lib.hid h2
          replace h3 := Lib.hid h3
          go_enter Try.func27, Try.ntmps27
          go_wp2_with fail
          refine (in_impl h0.out _).mono ?_
          rintro e w' ⟨rfl, rfl⟩
          go_wp2_with fail
          refine (in_impl h1.out _).mono ?_
          rintro e w' ⟨rfl, rfl⟩
          go_wp2_with fail
          refine (in_impl h2.out _).mono ?_
          rintro e w' ⟨rfl, rfl⟩
          go_wp2_with fail
          refine (in_impl h3.out _).mono ?_
          rintro e w' ⟨rfl, rfl⟩
          go_wp2
          go_ret
          exact ⟨ret_bo hres.out.symm, below_a1 _ _⟩
        | true =>
          cases h4 : isIn near 0 100 with
          | false =>
            have hres : Hid (v = false) := Lib.hid (by rw [← h]; simp [basketOk, h0, h1, h2, h3, h4])
            clear h
            replace h0 := Lib.hid h0
            replace h1 := Lib.hid h1
            replace h2 := Lib.hid h2
            replace h3 := Lib.hid h3
            replace h4 := Lib.hid h4
            go_enter Try.func27, Try.ntmps27
            go_wp2_with fail
            refine (in_impl h0.out _).mono ?_
            rintro e w' ⟨rfl, rfl⟩
            go_wp2_with fail
            refine (in_impl h1.out _).mono ?_
            rintro e w' ⟨rfl, rfl⟩
            go_wp2_with fail
            refine (in_impl h2.out _).mono ?_
            rintro e w' ⟨rfl, rfl⟩
            go_wp2_with fail
            refine (in_impl h3.out _).mono ?_
            rintro e w' ⟨rfl, rfl⟩
            go_wp2_with fail
            refine (in_impl h4.out _).mono ?_
            rintro e w' ⟨rfl, rfl⟩
            go_wp2
            go_ret
            exact ⟨ret_bo hres.out.symm, below_a1 _ _⟩
          | true =>
            have hres : Hid (v = true) := Lib.hid (by rw [← h]; simp [basketOk, h0, h1, h2, h3, h4])
            clear h
            replace h0 := Lib.hid h0
            replace h1 := Lib.hid h1
            replace h2 := Lib.hid h2
            replace h3 := Lib.hid h3
            replace h4 := Lib.hid h4
            go_enter Try.func27, Try.ntmps27
            go_wp2_with fail
            refine (in_impl h0.out _).mono ?_
            rintro e w' ⟨rfl, rfl⟩
            go_wp2_with fail
            refine (in_impl h1.out _).mono ?_
            rintro e w' ⟨rfl, rfl⟩
            go_wp2_with fail
            refine (in_impl h2.out _).mono ?_
            rintro e w' ⟨rfl, rfl⟩
            go_wp2_with fail
            refine (in_impl h3.out _).mono ?_
            rintro e w' ⟨rfl, rfl⟩
            go_wp2_with fail
            refine (in_impl h4.out _).mono ?_
            rintro e w' ⟨rfl, rfl⟩
            go_wp2
            go_ret
            exact ⟨ret_bo hres.out.symm, below_a1 _ _⟩

theorem vb_impl (b : BasketD) (w : World) (hb : b.good) : Calls Try.prog 27 #[.agg #[.int .i64 b.bars, .int .i64 b.rise, .int .i64 b.fall, .int .i64 b.clear, .int .i64 b.near]] w fun e w' => e = .returned (.bool (basketOk b)) ∧ Below w.heap.size w w' := ok_impl b rfl w
end Go.Proofs.Ytbhiimleagldgaa
