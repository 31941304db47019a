/- The law FnExactColourRuns as one call: for every input it returns true. -/
import Derived.Test.YtceedmejmmoepaaRb8
import Derived.Test.YtceedmejmmoepaaKc3
namespace Go.Proofs.Ytceedmejmmoepaa
open Go.RowKit
set_option linter.unusedVariables false
set_option linter.unusedSimpArgs false

set_option maxRecDepth 100000 in
set_option maxHeartbeats 4000000 in
theorem fnExactColourRuns_any (s0 : ByteArray) (w : World) (h0 : s0.size ≤ maxLen) :
    Calls Try.prog 10 #[.string s0] w fun e w' => e = .returned (.bool true) ∧ Below w.heap.size w w' := by
  have h0' := h0
  unfold maxLen at h0'
  by_cases hbig0 : (1048576 : Int) < (s0.size : Int)
  · go_enter Try.func10, Try.ntmps10
    go_wp2
    go_ret
    exact ⟨rfl, Below.refl _ _⟩
  have hs0 : s0.size ≤ 1048576 := by omega
  have hgb0 : decide ((1048576 : Int) < (s0.size : Int)) = false := decide_eq_false hbig0
  go_enter Try.func10, Try.ntmps10
  go_wp2_with fail
  refine (cr14_spec s0 _ hs0).mono ?_
  rintro e w1 ⟨rfl, hb1⟩
  have hB1 := Lib.hid (hb1)
  clear hb1
  go_wp2_with fail
  refine (cr14_impl s0 _ hs0).mono ?_
  rintro e w2 ⟨rfl, hb2⟩
  have hB2 := Lib.hid (hB1.out.step hb2)
  clear hB1
  clear hb2
  have hw := Lib.hid (hB2.out)
  clear hB2
  go_wp2
  go_ret
  exact ⟨rfl, hw.out⟩
end Go.Proofs.Ytceedmejmmoepaa
