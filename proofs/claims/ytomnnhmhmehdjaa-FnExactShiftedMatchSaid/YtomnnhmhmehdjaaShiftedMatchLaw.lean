/- The law FnExactShiftedMatch as one call: for every input it returns true. -/
import Derived.Test.YtomnnhmhmehdjaaCo2
import Derived.Test.YtomnnhmhmehdjaaPp6
import Derived.Test.YtomnnhmhmehdjaaTxtB
namespace Go.Proofs.Ytomnnhmhmehdjaa
open Go.RowKit
set_option linter.unusedVariables false
set_option linter.unusedSimpArgs false

set_option maxRecDepth 100000 in
set_option maxHeartbeats 4000000 in
theorem fnExactShiftedMatch_any (s0 : ByteArray) (s1 : ByteArray) (a2 : Int) (w : World) (h0 : s0.size ≤ maxLen) (h1 : s1.size ≤ maxLen) (h2 : (Lit.int .i64 a2).wf = true) :
    Calls Try.prog 10 #[.string s0, .string s1, .int .i64 a2] w fun e w' => e = .returned (.bool true) ∧ Below w.heap.size w w' := by
  have key0 := Lib.hid True.intro
  replace h2 := Lib.hid h2
  have h0' := h0
  unfold maxLen at h0'
  have h1' := h1
  unfold maxLen at h1'
  by_cases hbig0 : (1048576 : Int) < (s0.size : Int)
  · go_enter Try.func10, Try.ntmps10
    go_wp2
    go_ret
    exact ⟨rfl, Below.refl _ _⟩
  have hs0 : s0.size ≤ 1048576 := by omega
  have hgb0 : decide ((1048576 : Int) < (s0.size : Int)) = false := decide_eq_false hbig0
  by_cases hbig1 : (1048576 : Int) < (s1.size : Int)
  · go_enter Try.func10, Try.ntmps10
    go_wp2
    go_ret
    exact ⟨rfl, Below.refl _ _⟩
  have hs1 : s1.size ≤ 1048576 := by omega
  have hgb1 : decide ((1048576 : Int) < (s1.size : Int)) = false := decide_eq_false hbig1
  go_enter Try.func10, Try.ntmps10
  go_wp2_with fail
  refine (sm12_spec s0 s1 a2 _ hs0 hs1 h2.out).mono ?_
  rintro e w1 ⟨rfl, hb1⟩
  have hB1 := Lib.hid (hb1)
  clear hb1
  go_wp2_with fail
  refine (sm12_impl s0 s1 a2 _ hs0 hs1 h2.out).mono ?_
  rintro e w2 ⟨rfl, hb2⟩
  have hB2 := Lib.hid (hB1.out.step hb2)
  clear hB1
  clear hb2
  have hw := Lib.hid (hB2.out)
  clear hB2
  go_wp2
  go_ret
  exact ⟨rfl, hw.out⟩
end Go.Proofs.Ytomnnhmhmehdjaa
