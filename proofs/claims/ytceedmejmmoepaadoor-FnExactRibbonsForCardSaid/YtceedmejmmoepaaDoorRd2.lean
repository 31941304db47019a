/- The laws on StrokesUntil and RibbonsFor as one call: for every input true, where the package error holds an error of its own. -/
import Derived.Test.YtceedmejmmoepaaDoorRd1
import Derived.Test.YtceedmejmmoepaaDoorRibO
namespace Go.Proofs.YtceedmejmmoepaaDoor
open Go.RowKit Go.ChangeShapes Go.WideShapes Go.Deep
set_option linter.unusedVariables false
set_option linter.unusedSimpArgs false

set_option maxHeartbeats 1600000 in
theorem fnExactStrokesUntil_any (a : Addr) (x0 : RibbonD) (a1 : Int) (w : World) (h0 : x0.good) (h1 : (Lit.int .i64 a1).wf = true) (hE : ErrC a w) :
    Calls Tryd.prog 3 #[.agg #[.int .i64 x0.spots, .int .i64 x0.ink, .int .i64 x0.takes], .int .i64 a1] w fun e w' => e = .returned (.bool true) ∧ Below w.heap.size w w' := by
  have hto := Lib.hid (fun W => toRibbon_any x0 W)
  have hsp := Lib.hid (fun W => su14_spec x0 a1 W h0 h1)
  have him := Lib.hid (fun W h => su14_impl a x0 a1 W h0 h1 h)
  replace hE := Lib.hid hE
  generalize suR x0 a1 = q at *
  obtain ⟨x1, x2⟩ := q
  simp only at hsp him
  obtain ⟨S, I, K⟩ := x0
  clear h0 h1
  go_enter Tryd.func3, Tryd.ntmps3
  go_wp2_with fail
  refine (hto.out _).mono ?_
  rintro e w1 ⟨rfl, hb1⟩
  obtain ⟨q0, q1, q2⟩ := (Box3r.new w _ (.int .i64 S) (.int .i64 I) (.int .i64 K)).step hb1
  have z1 := Lib.hid ((below_a1 w _).step hb1)
  go_wp2_with fail
  refine (hsp.out _).mono ?_
  rintro e w2 ⟨rfl, hb2⟩
  replace q0 := cell_step q0 hb2
  replace q1 := cell_step q1 hb2
  replace q2 := cell_step q2 hb2
  have z2 := Lib.hid (z1.out.step hb2)
  clear hb1 hb2 z1
  go_wp2_with fail
  refine (hto.out _).mono ?_
  rintro e w3 ⟨rfl, hb3⟩
  have z3 := Lib.hid (z2.out.step hb3)
  clear hb3 z2 q0 q1 q2
  go_wp2_with fail
  refine (him.out _ (hE.out.step z3.out)).mono ?_
  rintro e w4 ⟨rfl, hb4⟩
  have z4 := Lib.hid (z3.out.step hb4)
  clear hb4 z3
  go_wp2
  go_ret
  exact ⟨rfl, z4.out⟩
set_option maxHeartbeats 1600000 in
theorem fnExactRibbonsFor_any (a : Addr) (x0 : RibbonD) (a1 : Int) (a2 : Int) (w : World) (h0 : x0.good) (h1 : (Lit.int .i64 a1).wf = true) (h2 : (Lit.int .i64 a2).wf = true) (hE : ErrC a w) :
    Calls Tryd.prog 4 #[.agg #[.int .i64 x0.spots, .int .i64 x0.ink, .int .i64 x0.takes], .int .i64 a1, .int .i64 a2] w fun e w' => e = .returned (.bool true) ∧ Below w.heap.size w w' := by
  have hto := Lib.hid (fun W => toRibbon_any x0 W)
  have hsp := Lib.hid (fun W => rf14_spec x0 a1 a2 W h0 h1 h2)
  have him := Lib.hid (fun W h => rf14_impl a x0 a1 a2 W h0 h1 h2 h)
  replace hE := Lib.hid hE
  generalize rfR14 x0 a1 a2 = q at *
  obtain ⟨x1, x2⟩ := q
  simp only at hsp him
  obtain ⟨S, I, K⟩ := x0
  clear h0 h1 h2
  go_enter Tryd.func4, Tryd.ntmps4
  go_wp2_with fail
  refine (hto.out _).mono ?_
  rintro e w1 ⟨rfl, hb1⟩
  obtain ⟨q0, q1, q2⟩ := (Box3r.new w _ (.int .i64 S) (.int .i64 I) (.int .i64 K)).step hb1
  have z1 := Lib.hid ((below_a1 w _).step hb1)
  go_wp2_with fail
  refine (hsp.out _).mono ?_
  rintro e w2 ⟨rfl, hb2⟩
  replace q0 := cell_step q0 hb2
  replace q1 := cell_step q1 hb2
  replace q2 := cell_step q2 hb2
  have z2 := Lib.hid (z1.out.step hb2)
  clear hb1 hb2 z1
  go_wp2_with fail
  refine (hto.out _).mono ?_
  rintro e w3 ⟨rfl, hb3⟩
  have z3 := Lib.hid (z2.out.step hb3)
  clear hb3 z2 q0 q1 q2
  go_wp2_with fail
  refine (him.out _ (hE.out.step z3.out)).mono ?_
  rintro e w4 ⟨rfl, hb4⟩
  have z4 := Lib.hid (z3.out.step hb4)
  clear hb4 z3
  go_wp2
  go_ret
  exact ⟨rfl, z4.out⟩
end Go.Proofs.YtceedmejmmoepaaDoor
