/- MustWait: the model's function and the program's. -/
import Derived.Test.YtndodlfmjdgpcaaBarsB
namespace Go.Proofs.Ytndodlfmjdgpcaa
open Go.RowKit
set_option linter.unusedVariables false
set_option linter.unusedSimpArgs false

def mustWait (b : BasketD) (f s : Int) : Int × Int := if basketOk b = true then (if (hasBar b f && hasBar b s) = true then (waitI b f s, 0) else (0, 2)) else (0, 1)
theorem ret_mw {r : Int × Int} {a c : Int} (h : r = (a, c)) : Ending.returned (.tuple #[.int .i64 a, .int .i64 c]) = .returned (.tuple #[.int .i64 r.1, .int .i64 r.2]) := by rw [h]
set_option maxRecDepth 100000 in
set_option maxHeartbeats 1600000 in
theorem mw_impl (b : BasketD) (f s : Int) (w : World) (hb : b.good) (hf : (Lit.int .i64 f).wf = true) (hs : (Lit.int .i64 s).wf = true) :
    Calls Try.prog 18 #[.agg #[.int .i64 b.bars, .int .i64 b.rise, .int .i64 b.fall, .int .i64 b.clear, .int .i64 b.near], .int .i64 f, .int .i64 s] w fun e w' => e = .returned (.tuple #[.int .i64 (mustWait b f s).1, .int .i64 (mustWait b f s).2]) ∧ Below w.heap.size w w' := by
  generalize hr : mustWait b f s = r
  replace hr := Lib.hid hr.symm
  clear hb hf hs
  cases hok : basketOk b with
  | false =>
    have hres : Hid (r = (0, 1)) := Lib.hid (by rw [hr.out, mustWait, hok]; rfl)
    have hc := fun W => ok_impl b hok W
    replace hc := Lib.hid hc
    clear hok hr
    obtain ⟨bars, rise, fall, clear, near⟩ := b
    go_enter Try.func18, Try.ntmps18
    go_wp2_with fail
    refine (hc.out _).mono ?_
    rintro e w1 ⟨rfl, hb1⟩
    go_wp2
    go_ret2
    exact ⟨ret_mw hres.out, (below_a1 _ _).step hb1⟩
  | true =>
    have hc := fun W => ok_impl b hok W
    replace hc := Lib.hid hc
    cases h1 : hasBar b f with
    | false =>
      have hres : Hid (r = (0, 2)) := Lib.hid (by rw [hr.out, mustWait, hok, h1]; rfl)
      have hc1 := fun W => lacks_impl b f h1 hok W
      replace hc1 := Lib.hid hc1
      clear hok hr h1
      obtain ⟨bars, rise, fall, clear, near⟩ := b
      go_enter Try.func18, Try.ntmps18
      go_wp2_with fail
      refine (hc.out _).mono ?_
      rintro e w1 ⟨rfl, hb1⟩
      have d0 : w1.cell? ⟨w.heap.size, 0, none⟩ = some (.int .i64 bars) := cell_step (cell_new rfl rfl) hb1
      have d1 : w1.cell? ⟨w.heap.size, 1, none⟩ = some (.int .i64 rise) := cell_step (cell_new rfl rfl) hb1
      have d2 : w1.cell? ⟨w.heap.size, 2, none⟩ = some (.int .i64 fall) := cell_step (cell_new rfl rfl) hb1
      have d3 : w1.cell? ⟨w.heap.size, 3, none⟩ = some (.int .i64 clear) := cell_step (cell_new rfl rfl) hb1
      have d4 : w1.cell? ⟨w.heap.size, 4, none⟩ = some (.int .i64 near) := cell_step (cell_new rfl rfl) hb1
      go_wp2_with fail
      refine (hc1.out _).mono ?_
      rintro e w2 ⟨rfl, hb2⟩
      go_wp2
      go_ret2
      exact ⟨ret_mw hres.out, ((below_a1 _ _).step hb1).step hb2⟩
    | true =>
      have hc1 := fun W => lacks_impl b f h1 hok W
      replace hc1 := Lib.hid hc1
      cases h2 : hasBar b s with
      | false =>
        have hres : Hid (r = (0, 2)) := Lib.hid (by rw [hr.out, mustWait, hok, h1, h2]; rfl)
        have hc2 := fun W => lacks_impl b s h2 hok W
        replace hc2 := Lib.hid hc2
        clear hok hr h1 h2
        obtain ⟨bars, rise, fall, clear, near⟩ := b
        go_enter Try.func18, Try.ntmps18
        go_wp2_with fail
        refine (hc.out _).mono ?_
        rintro e w1 ⟨rfl, hb1⟩
        have d0 : w1.cell? ⟨w.heap.size, 0, none⟩ = some (.int .i64 bars) := cell_step (cell_new rfl rfl) hb1
        have d1 : w1.cell? ⟨w.heap.size, 1, none⟩ = some (.int .i64 rise) := cell_step (cell_new rfl rfl) hb1
        have d2 : w1.cell? ⟨w.heap.size, 2, none⟩ = some (.int .i64 fall) := cell_step (cell_new rfl rfl) hb1
        have d3 : w1.cell? ⟨w.heap.size, 3, none⟩ = some (.int .i64 clear) := cell_step (cell_new rfl rfl) hb1
        have d4 : w1.cell? ⟨w.heap.size, 4, none⟩ = some (.int .i64 near) := cell_step (cell_new rfl rfl) hb1
        go_wp2_with fail
        refine (hc1.out _).mono ?_
        rintro e w2 ⟨rfl, hb2⟩
        replace d0 := cell_step d0 hb2
        replace d1 := cell_step d1 hb2
        replace d2 := cell_step d2 hb2
        replace d3 := cell_step d3 hb2
        replace d4 := cell_step d4 hb2
        go_wp2_with fail
        refine (hc2.out _).mono ?_
        rintro e w3 ⟨rfl, hb3⟩
        go_wp2
        go_ret2
        exact ⟨ret_mw hres.out, (((below_a1 _ _).step hb1).step hb2).step hb3⟩
      | true =>
        have hres : Hid (r = (waitI b f s, 0)) := Lib.hid (by rw [hr.out, mustWait, hok, h1, h2]; rfl)
        have hc2 := fun W => lacks_impl b s h2 hok W
        have hc3 := fun W => wait_impl b f s hok h1 h2 W
        replace hc2 := Lib.hid hc2
        replace hc3 := Lib.hid hc3
        clear hok hr h1 h2
        obtain ⟨bars, rise, fall, clear, near⟩ := b
        go_enter Try.func18, Try.ntmps18
        go_wp2_with fail
        refine (hc.out _).mono ?_
        rintro e w1 ⟨rfl, hb1⟩
        have d0 : w1.cell? ⟨w.heap.size, 0, none⟩ = some (.int .i64 bars) := cell_step (cell_new rfl rfl) hb1
        have d1 : w1.cell? ⟨w.heap.size, 1, none⟩ = some (.int .i64 rise) := cell_step (cell_new rfl rfl) hb1
        have d2 : w1.cell? ⟨w.heap.size, 2, none⟩ = some (.int .i64 fall) := cell_step (cell_new rfl rfl) hb1
        have d3 : w1.cell? ⟨w.heap.size, 3, none⟩ = some (.int .i64 clear) := cell_step (cell_new rfl rfl) hb1
        have d4 : w1.cell? ⟨w.heap.size, 4, none⟩ = some (.int .i64 near) := cell_step (cell_new rfl rfl) hb1
        go_wp2_with fail
        refine (hc1.out _).mono ?_
        rintro e w2 ⟨rfl, hb2⟩
        replace d0 := cell_step d0 hb2
        replace d1 := cell_step d1 hb2
        replace d2 := cell_step d2 hb2
        replace d3 := cell_step d3 hb2
        replace d4 := cell_step d4 hb2
        go_wp2_with fail
        refine (hc2.out _).mono ?_
        rintro e w3 ⟨rfl, hb3⟩
        replace d0 := cell_step d0 hb3
        replace d1 := cell_step d1 hb3
        replace d2 := cell_step d2 hb3
        replace d3 := cell_step d3 hb3
        replace d4 := cell_step d4 hb3
        go_wp2_with fail
        refine (hc3.out _).mono ?_
        rintro e w4 ⟨rfl, hb4⟩
        go_wp2
        go_ret2
        exact ⟨ret_mw hres.out, ((((below_a1 _ _).step hb1).step hb2).step hb3).step hb4⟩
end Go.Proofs.Ytndodlfmjdgpcaa
