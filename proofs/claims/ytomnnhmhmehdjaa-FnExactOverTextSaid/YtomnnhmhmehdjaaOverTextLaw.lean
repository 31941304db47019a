/- The law FnExactOverText as one call: for every input it returns true. -/
import Derived.Test.YtomnnhmhmehdjaaCo8
import Derived.Test.YtomnnhmhmehdjaaOi2
import Derived.Test.YtomnnhmhmehdjaaOvO
namespace Go.Proofs.Ytomnnhmhmehdjaa
open Go.RowKit
set_option linter.unusedVariables false
set_option linter.unusedSimpArgs false

set_option maxRecDepth 100000 in
set_option maxHeartbeats 4000000 in
theorem fnExactOverText_any (x0 : OverD) (w : World) (h0 : x0.good) :
    Calls Try.prog 12 #[.agg #[.string x0.under, .string x0.top, .string x0.seen]] w fun e w' => e = .returned (.bool true) ∧ Below w.heap.size w w' := by
  have hsz := Lib.hid (fun W => szOver_any x0 1048576 W (by omega) (by omega) h0)
  obtain ⟨k0, k1⟩ := szOverI_le 1048576 x0 (by omega)
  have hto := Lib.hid (fun W => toOver_any x0 W)
  have hsp := Lib.hid (fun W => ot12_spec x0 W h0)
  have him := Lib.hid (fun W => ot12_impl x0 W h0)
  clear h0
  generalize szOverI 1048576 x0 = z at *
  generalize otR x0 = T at *
  obtain ⟨U, O, S⟩ := x0
  simp only at *
  by_cases hz : z < 0
  · have g1 : decide (z < 0) = true := decide_eq_true hz
    go_enter Try.func12, Try.ntmps12
    go_wp2_with fail
    refine (hsz.out _).mono ?_
    rintro e w1 ⟨rfl, hb1⟩
    go_wp2
    go_ret
    exact ⟨rfl, (below_a1 _ _).step hb1⟩
  · have g1 : decide (z < 0) = false := decide_eq_false hz
    go_enter Try.func12, Try.ntmps12
    go_wp2_with fail
    refine (hsz.out _).mono ?_
    rintro e w1 ⟨rfl, hb1⟩
    have B3 := (Box3.new w _ (.string U) (.string O) (.string S)).step hb1
    obtain ⟨q0, q1, q2⟩ := id B3
    have hbw := (below_a1 _ _).step hb1
    clear hb1
    go_wp2_with fail
    refine (hto.out _).mono ?_
    rintro e w2 ⟨rfl, hb2⟩
    replace q0 := cell_step q0 hb2
    replace q1 := cell_step q1 hb2
    replace q2 := cell_step q2 hb2
    replace hbw := hbw.step hb2
    clear hb2 B3
    go_wp2_with fail
    refine (hsp.out _).mono ?_
    rintro e w3 ⟨rfl, hb3⟩
    replace q0 := cell_step q0 hb3
    replace q1 := cell_step q1 hb3
    replace q2 := cell_step q2 hb3
    replace hbw := hbw.step hb3
    clear hb3
    go_wp2_with fail
    refine (hto.out _).mono ?_
    rintro e w4 ⟨rfl, hb4⟩
    replace hbw := hbw.step hb4
    clear hb4
    go_wp2_with fail
    refine (him.out _).mono ?_
    rintro e w5 ⟨rfl, hb5⟩
    replace hbw := hbw.step hb5
    clear hb5 q0 q1 q2
    go_wp2
    go_ret
    exact ⟨rfl, hbw⟩
end Go.Proofs.Ytomnnhmhmehdjaa
