/- Baskets: whether a number lies between two others, whether a basket is valid, how long two bars wait: the model's functions and the program's. -/
import Derived.Test.YthgeoilkjloblaaBars0
import Derived.Test.YthgeoilkjloblaaOwn0
import Derived.Test.YthgeoilkjloblaaOpen0
import Derived.Deep.QuietTactic
import Derived.BigQuiet
namespace Go.Proofs.Ythgeoilkjloblaa
open Go.RowKit Go.ChangeShapes Go.WideShapes Go.Deep
set_option linter.unusedVariables false
set_option linter.unusedSimpArgs false

theorem in_spec {n lo hi : Int} {v : Bool} (h : isIn n lo hi = v) (w : World) :
    Calls Try.prog 62 #[.int .i64 n, .int .i64 lo, .int .i64 hi] w fun e w' => e = .returned (.bool v) ∧ w = w' := by
  by_cases h1 : lo ≤ n
  · have hres : Hid (v = decide (n ≤ hi)) := Lib.hid (by rw [← h]; simp [isIn, h1])
    clear h
    go_enter Try.func62, Try.ntmps62
    go_wp2
    go_ret
    exact ⟨ret_bo hres.out.symm, rfl⟩
  · have hres : Hid (v = false) := Lib.hid (by rw [← h]; simp [isIn, h1])
    clear h
    go_enter Try.func62, Try.ntmps62
    go_wp2
    go_ret
    exact ⟨ret_bo hres.out.symm, rfl⟩
theorem in_impl {n lo hi : Int} {v : Bool} (h : isIn n lo hi = v) (w : World) :
    Calls Try.prog 42 #[.int .i64 n, .int .i64 lo, .int .i64 hi] w fun e w' => e = .returned (.bool v) ∧ w = w' := by
  by_cases h1 : lo ≤ n
  · have hres : Hid (v = decide (n ≤ hi)) := Lib.hid (by rw [← h]; simp [isIn, h1])
    clear h
    go_enter Try.func42, Try.ntmps42
    go_wp2
    go_ret
    exact ⟨ret_bo hres.out.symm, rfl⟩
  · have hres : Hid (v = false) := Lib.hid (by rw [← h]; simp [isIn, h1])
    clear h
    go_enter Try.func42, Try.ntmps42
    go_wp2
    go_ret
    exact ⟨ret_bo hres.out.symm, rfl⟩
set_option maxRecDepth 100000 in
theorem ok_spec (b : BasketD) {v : Bool} (h : basketOk b = v) (w : World) :
    Calls Try.prog 54 #[.agg #[.int .i64 b.bars, .int .i64 b.rise, .int .i64 b.fall, .int .i64 b.clear, .int .i64 b.near]] w fun e w' => e = .returned (.bool v) ∧ Below w.heap.size w w' := by
  obtain ⟨bars, rise, fall, clear, near⟩ := b
  cases h0 : isIn bars 2 60 with
  | false =>
    have hres : Hid (v = false) := Lib.hid (by rw [← h]; simp [basketOk, h0])
    clear h
    replace h0 := Lib.hid h0
    go_enter Try.func54, Try.ntmps54
    go_wp2_with fail
    refine (in_spec h0.out _).mono ?_
    rintro e w' ⟨rfl, rfl⟩
    go_wp2
    go_ret
    exact ⟨ret_bo hres.out.symm, below_a1 _ _⟩
  | true =>
    cases h1 : isIn rise 1 100 with
    | false =>
      have hres : Hid (v = false) := Lib.hid (by rw [← h]; simp [basketOk, h0, h1])
      clear h
      replace h0 := Lib.hid h0
      replace h1 := Lib.hid h1
      go_enter Try.func54, Try.ntmps54
      go_wp2_with fail
      refine (in_spec h0.out _).mono ?_
      rintro e w' ⟨rfl, rfl⟩
      go_wp2_with fail
      refine (in_spec h1.out _).mono ?_
      rintro e w' ⟨rfl, rfl⟩
      go_wp2
      go_ret
      exact ⟨ret_bo hres.out.symm, below_a1 _ _⟩
    | true =>
      cases h2 : isIn fall 1 100 with
      | false =>
        have hres : Hid (v = false) := Lib.hid (by rw [← h]; simp [basketOk, h0, h1, h2])
        clear h
        replace h0 := Lib.hid h0
        replace h1 := Lib.hid h1
        replace h2 := Lib.hid h2
        go_enter Try.func54, Try.ntmps54
        go_wp2_with fail
        refine (in_spec h0.out _).mono ?_
        rintro e w' ⟨rfl, rfl⟩
        go_wp2_with fail
        refine (in_spec h1.out _).mono ?_
        rintro e w' ⟨rfl, rfl⟩
        go_wp2_with fail
        refine (in_spec h2.out _).mono ?_
        rintro e w' ⟨rfl, rfl⟩
        go_wp2
        go_ret
        exact ⟨ret_bo hres.out.symm, below_a1 _ _⟩
      | true =>
        cases h3 : isIn clear 1 100 with
        | false =>
          have hres : Hid (v = false) := Lib.hid (by rw [← h]; simp [basketOk, h0, h1, h2, h3])
          clear h
          replace h0 := Lib.hid h0
          replace h1 := Lib.hid h1
          replace h2 := Lib.hid h2
          replace h3 := Lib.hid h3
          go_enter Try.func54, Try.ntmps54
          go_wp2_with fail
          refine (in_spec h0.out _).mono ?_
          rintro e w' ⟨rfl, rfl⟩
          go_wp2_with fail
          refine (in_spec h1.out _).mono ?_
          rintro e w' ⟨rfl, rfl⟩
          go_wp2_with fail
          refine (in_spec h2.out _).mono ?_
          rintro e w' ⟨rfl, rfl⟩
          go_wp2_with fail
          refine (in_spec h3.out _).mono ?_
          rintro e w' ⟨rfl, rfl⟩
          go_wp2
          go_ret
          exact ⟨ret_bo hres.out.symm, below_a1 _ _⟩
        | true =>
          cases h4 : isIn near 0 100 with
          | false =>
            have hres : Hid (v = false) := Lib.hid (by rw [← h]; simp [basketOk, h0, h1, h2, h3, h4])
            clear h
            replace h0 := Lib.hid h0
            replace h1 := Lib.hid h1
            replace h2 := Lib.hid h2
            replace h3 := Lib.hid h3
            replace h4 := Lib.hid h4
            go_enter Try.func54, Try.ntmps54
            go_wp2_with fail
            refine (in_spec h0.out _).mono ?_
            rintro e w' ⟨rfl, rfl⟩
            go_wp2_with fail
            refine (in_spec h1.out _).mono ?_
            rintro e w' ⟨rfl, rfl⟩
            go_wp2_with fail
            refine (in_spec h2.out _).mono ?_
            rintro e w' ⟨rfl, rfl⟩
            go_wp2_with fail
            refine (in_spec h3.out _).mono ?_
            rintro e w' ⟨rfl, rfl⟩
            go_wp2_with fail
            refine (in_spec h4.out _).mono ?_
            rintro e w' ⟨rfl, rfl⟩
            go_wp2
            go_ret
            exact ⟨ret_bo hres.out.symm, below_a1 _ _⟩
          | true =>
            have hres : Hid (v = true) := Lib.hid (by rw [← h]; simp [basketOk, h0, h1, h2, h3, h4])
            clear h
            replace h0 := Lib.hid h0
            replace h1 := Lib.hid h1
            replace h2 := Lib.hid h2
            replace h3 := Lib.hid h3
            replace h4 := Lib.hid h4
            go_enter Try.func54, Try.ntmps54
            go_wp2_with fail
            refine (in_spec h0.out _).mono ?_
            rintro e w' ⟨rfl, rfl⟩
            go_wp2_with fail
            refine (in_spec h1.out _).mono ?_
            rintro e w' ⟨rfl, rfl⟩
            go_wp2_with fail
            refine (in_spec h2.out _).mono ?_
            rintro e w' ⟨rfl, rfl⟩
            go_wp2_with fail
            refine (in_spec h3.out _).mono ?_
            rintro e w' ⟨rfl, rfl⟩
            go_wp2_with fail
            refine (in_spec h4.out _).mono ?_
            rintro e w' ⟨rfl, rfl⟩
            go_wp2
            go_ret
            exact ⟨ret_bo hres.out.symm, below_a1 _ _⟩
set_option maxRecDepth 100000 in
theorem ok_impl (b : BasketD) {v : Bool} (h : basketOk b = v) (w : World) :
    Calls Try.prog 56 #[.agg #[.int .i64 b.bars, .int .i64 b.rise, .int .i64 b.fall, .int .i64 b.clear, .int .i64 b.near]] w fun e w' => e = .returned (.bool v) ∧ Below w.heap.size w w' := by
  obtain ⟨bars, rise, fall, clear, near⟩ := b
  cases h0 : isIn bars 2 60 with
  | false =>
    have hres : Hid (v = false) := Lib.hid (by rw [← h]; simp [basketOk, h0])
    clear h
    replace h0 := Lib.hid h0
    go_enter Try.func56, Try.ntmps56
    go_wp2_with fail
    refine (in_impl h0.out _).mono ?_
    rintro e w' ⟨rfl, rfl⟩
    go_wp2
    go_ret
    exact ⟨ret_bo hres.out.symm, below_a1 _ _⟩
  | true =>
    cases h1 : isIn rise 1 100 with
    | false =>
      have hres : Hid (v = false) := Lib.hid (by rw [← h]; simp [basketOk, h0, h1])
      clear h
      replace h0 := Lib.hid h0
      replace h1 := Lib.hid h1
      go_enter Try.func56, Try.ntmps56
      go_wp2_with fail
      refine (in_impl h0.out _).mono ?_
      rintro e w' ⟨rfl, rfl⟩
      go_wp2_with fail
      refine (in_impl h1.out _).mono ?_
      rintro e w' ⟨rfl, rfl⟩
      go_wp2
      go_ret
      exact ⟨ret_bo hres.out.symm, below_a1 _ _⟩
    | true =>
      cases h2 : isIn fall 1 100 with
      | false =>
        have hres : Hid (v = false) := Lib.hid (by rw [← h]; simp [basketOk, h0, h1, h2])
        clear h
        replace h0 := Lib.hid h0
        replace h1 := Lib.hid h1
        replace h2 := Lib.hid h2
        go_enter Try.func56, Try.ntmps56
        go_wp2_with fail
        refine (in_impl h0.out _).mono ?_
        rintro e w' ⟨rfl, rfl⟩
        go_wp2_with fail
        refine (in_impl h1.out _).mono ?_
        rintro e w' ⟨rfl, rfl⟩
        go_wp2_with fail
        refine (in_impl h2.out _).mono ?_
        rintro e w' ⟨rfl, rfl⟩
        go_wp2
        go_ret
        exact ⟨ret_bo hres.out.symm, below_a1 _ _⟩
      | true =>
        cases h3 : isIn clear 1 100 with
        | false =>
          have hres : Hid (v = false) := Lib.hid (by rw [← h]; simp [basketOk, h0, h1, h2, h3])
          clear h
          replace h0 := Lib.hid h0
          replace h1 := Lib.hid h1
          replace h2 := Lib.hid h2
          replace h3 := Lib.hid h3
          go_enter Try.func56, Try.ntmps56
          go_wp2_with fail
          refine (in_impl h0.out _).mono ?_
          rintro e w' ⟨rfl, rfl⟩
          go_wp2_with fail
          refine (in_impl h1.out _).mono ?_
          rintro e w' ⟨rfl, rfl⟩
          go_wp2_with fail
          refine (in_impl h2.out _).mono ?_
          rintro e w' ⟨rfl, rfl⟩
          go_wp2_with fail
          refine (in_impl h3.out _).mono ?_
          rintro e w' ⟨rfl, rfl⟩
          go_wp2
          go_ret
          exact ⟨ret_bo hres.out.symm, below_a1 _ _⟩
        | true =>
          cases h4 : isIn near 0 100 with
          | false =>
            have hres : Hid (v = false) := Lib.hid (by rw [← h]; simp [basketOk, h0, h1, h2, h3, h4])
            clear h
            replace h0 := Lib.hid h0
            replace h1 := Lib.hid h1
            replace h2 := Lib.hid h2
            replace h3 := Lib.hid h3
            replace h4 := Lib.hid h4
            go_enter Try.func56, Try.ntmps56
            go_wp2_with fail
            refine (in_impl h0.out _).mono ?_
            rintro e w' ⟨rfl, rfl⟩
            go_wp2_with fail
            refine (in_impl h1.out _).mono ?_
            rintro e w' ⟨rfl, rfl⟩
            go_wp2_with fail
            refine (in_impl h2.out _).mono ?_
            rintro e w' ⟨rfl, rfl⟩
            go_wp2_with fail
            refine (in_impl h3.out _).mono ?_
            rintro e w' ⟨rfl, rfl⟩
            go_wp2_with fail
            refine (in_impl h4.out _).mono ?_
            rintro e w' ⟨rfl, rfl⟩
            go_wp2
            go_ret
            exact ⟨ret_bo hres.out.symm, below_a1 _ _⟩
          | true =>
            have hres : Hid (v = true) := Lib.hid (by rw [← h]; simp [basketOk, h0, h1, h2, h3, h4])
            clear h
            replace h0 := Lib.hid h0
            replace h1 := Lib.hid h1
            replace h2 := Lib.hid h2
            replace h3 := Lib.hid h3
            replace h4 := Lib.hid h4
            go_enter Try.func56, Try.ntmps56
            go_wp2_with fail
            refine (in_impl h0.out _).mono ?_
            rintro e w' ⟨rfl, rfl⟩
            go_wp2_with fail
            refine (in_impl h1.out _).mono ?_
            rintro e w' ⟨rfl, rfl⟩
            go_wp2_with fail
            refine (in_impl h2.out _).mono ?_
            rintro e w' ⟨rfl, rfl⟩
            go_wp2_with fail
            refine (in_impl h3.out _).mono ?_
            rintro e w' ⟨rfl, rfl⟩
            go_wp2_with fail
            refine (in_impl h4.out _).mono ?_
            rintro e w' ⟨rfl, rfl⟩
            go_wp2
            go_ret
            exact ⟨ret_bo hres.out.symm, below_a1 _ _⟩

set_option maxRecDepth 100000 in
theorem open_basket {H : Type} {enc : TypeId × Value → H} {w : World} {base : Nat} {spare : Nat → Bool} {held : Bool} {r : Reach} {b0 : Nat} {v : Value} {d : DataW H} {p : List MemPlace}
    (hv : Value.okWide Try.prog w r b0 31 v) (h : DataW.Trod enc Try.prog w base spare held 31 v d p) :
    ∃ b : BasketD, v = .agg #[.int .i64 b.bars, .int .i64 b.rise, .int .i64 b.fall, .int .i64 b.clear, .int .i64 b.near] ∧ b.good := by
  obtain ⟨cs, rfl, hsz, hi⟩ := open_agg_any Try.underlying31 (by kernel_rfl) (by kernel_rfl) hv h
  obtain ⟨v0, _, y0, c0, t0⟩ := hi 0 _ rfl
  obtain ⟨v1, _, y1, c1, t1⟩ := hi 1 _ rfl
  obtain ⟨v2, _, y2, c2, t2⟩ := hi 2 _ rfl
  obtain ⟨v3, _, y3, c3, t3⟩ := hi 3 _ rfl
  obtain ⟨v4, _, y4, c4, t4⟩ := hi 4 _ rfl
  obtain ⟨n0, e0, _, w0⟩ := DataW.trod_int Try.underlying2 t0
  obtain ⟨n1, e1, _, w1⟩ := DataW.trod_int Try.underlying2 t1
  obtain ⟨n2, e2, _, w2⟩ := DataW.trod_int Try.underlying2 t2
  obtain ⟨n3, e3, _, w3⟩ := DataW.trod_int Try.underlying2 t3
  obtain ⟨n4, e4, _, w4⟩ := DataW.trod_int Try.underlying2 t4
  simp at e0 e1 e2 e3 e4
  subst e0 e1 e2 e3 e4
  obtain ⟨l⟩ := cs
  match l, hsz with
  | [a0, a1, a2, a3, a4], _ =>
    simp at c0 c1 c2 c3 c4
    subst c0 c1 c2 c3 c4
    exact ⟨⟨n0, n1, n2, n3, n4⟩, rfl, w0, w1, w2, w3, w4⟩
theorem vb_impl (b : BasketD) (w : World) (hb : b.good) : Calls Try.prog 56 #[.agg #[.int .i64 b.bars, .int .i64 b.rise, .int .i64 b.fall, .int .i64 b.clear, .int .i64 b.near]] w fun e w' => e = .returned (.bool (basketOk b)) ∧ Below w.heap.size w w' := ok_impl b rfl w
end Go.Proofs.Ythgeoilkjloblaa
