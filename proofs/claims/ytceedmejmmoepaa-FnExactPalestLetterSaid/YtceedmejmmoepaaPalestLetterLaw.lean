/- The law FnExactPalestLetter as one call: for every input it returns true. -/
import Derived.Test.YtceedmejmmoepaaRc4
import Derived.Test.YtceedmejmmoepaaRc7
import Derived.Test.YtceedmejmmoepaaRibO
namespace Go.Proofs.Ytceedmejmmoepaa
open Go.RowKit
set_option linter.unusedVariables false
set_option linter.unusedSimpArgs false

set_option maxRecDepth 100000 in
set_option maxHeartbeats 4000000 in
theorem fnExactPalestLetter_any (x0 : RibbonD) (a1 : Int) (s2 : ByteArray) (a3 : Int) (w : World) (h0 : x0.good) (h1 : (Lit.int .i64 a1).wf = true) (h2 : s2.size ≤ maxLen) (h3 : (Lit.int .i64 a3).wf = true) :
    Calls Try.prog 9 #[.agg #[.int .i64 x0.spots, .int .i64 x0.ink, .int .i64 x0.takes], .int .i64 a1, .string s2, .int .i64 a3] w fun e w' => e = .returned (.bool true) ∧ Below w.heap.size w w' := by
  have key0 := Lib.hid True.intro
  replace h1 := Lib.hid h1
  replace h3 := Lib.hid h3
  replace h0 := Lib.hid h0
  have h2' := h2
  unfold maxLen at h2'
  by_cases hbig2 : (1048576 : Int) < (s2.size : Int)
  · go_enter Try.func9, Try.ntmps9
    go_wp2
    go_ret
    exact ⟨rfl, below_a1 _ _⟩
  have hs2 : s2.size ≤ 1048576 := by omega
  have hgb2 : decide ((1048576 : Int) < (s2.size : Int)) = false := decide_eq_false hbig2
  go_enter Try.func9, Try.ntmps9
  go_wp2_with fail
  refine (toRibbon_any x0 _).mono ?_
  rintro e w1 ⟨rfl, hb1⟩
  have Bb00 : w1.cell? ⟨w.heap.size, 0, none⟩ = some (.int .i64 x0.spots) := cell_step (cell_new (by simp) rfl) hb1
  have Bb01 : w1.cell? ⟨w.heap.size, 1, none⟩ = some (.int .i64 x0.ink) := cell_step (cell_new (by simp) rfl) hb1
  have Bb02 : w1.cell? ⟨w.heap.size, 2, none⟩ = some (.int .i64 x0.takes) := cell_step (cell_new (by simp) rfl) hb1
  have hb1' := (below_a1 _ _).step hb1
  clear hb1
  have hb1 := hb1'
  clear hb1'
  have ltb01 := World.block_lt_of_cell? _ _ Bb00
  simp only at ltb01
  have hB1 := Lib.hid (hb1)
  clear hb1
  go_wp2_with fail
  refine (pa14_spec x0 a1 s2 a3 _ h0.out h1.out hs2 h3.out).mono ?_
  rintro e w2 ⟨rfl, hb2⟩
  replace Bb00 := cell_step Bb00 hb2
  replace Bb01 := cell_step Bb01 hb2
  replace Bb02 := cell_step Bb02 hb2
  have ltb02 := World.block_lt_of_cell? _ _ Bb00
  simp only at ltb02
  have hB2 := Lib.hid (hB1.out.step hb2)
  clear hB1
  clear hb2
  go_wp2_with fail
  refine (toRibbon_any x0 _).mono ?_
  rintro e w3 ⟨rfl, hb3⟩
  replace Bb00 := cell_step Bb00 hb3
  replace Bb01 := cell_step Bb01 hb3
  replace Bb02 := cell_step Bb02 hb3
  have ltb03 := World.block_lt_of_cell? _ _ Bb00
  simp only at ltb03
  have hB3 := Lib.hid (hB2.out.step hb3)
  clear hB2
  clear hb3
  go_wp2_with fail
  refine (pa14_impl x0 a1 s2 a3 _ h0.out h1.out hs2 h3.out).mono ?_
  rintro e w4 ⟨rfl, hb4⟩
  replace Bb00 := cell_step Bb00 hb4
  replace Bb01 := cell_step Bb01 hb4
  replace Bb02 := cell_step Bb02 hb4
  have ltb04 := World.block_lt_of_cell? _ _ Bb00
  simp only at ltb04
  have hB4 := Lib.hid (hB3.out.step hb4)
  clear hB3
  clear hb4
  have hw := Lib.hid (hB4.out)
  clear hB4
  go_wp2
  go_ret
  exact ⟨rfl, hw.out⟩
end Go.Proofs.Ytceedmejmmoepaa
