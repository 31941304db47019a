/- The law on IsName as one call: for every string it returns true. -/
import Derived.Test.YtkdpileflddohaaNames
namespace Go.Proofs.Ytkdpileflddohaa
open Go.RowKit
set_option linter.unusedVariables false

theorem fnExactIsName_any (s : ByteArray) (w : World) (hs : s.size ≤ maxLen) :
    Calls Try.prog 5 #[.string s] w fun e w' => e = .returned (.bool true) ∧ Below w.heap.size w w' := by
  have hs' := hs
  unfold maxLen at hs'
  by_cases hb : 1048576 < s.size
  · go_enter Try.func5, Try.ntmps5
    go_wp2
    go_ret
    exact ⟨rfl, Below.refl _ _⟩
  · have hspec := Lib.hid (isName_spec s w hs)
    have himpl := Lib.hid (isName_impl s w hs)
    go_enter Try.func5, Try.ntmps5
    go_wp2_with (first | (go_at_call 28; refine (isName_spec _ _ hs).mono ?_; rintro e w' ⟨rfl, rfl⟩) | (go_at_call 29; refine (isName_impl _ _ hs).mono ?_; rintro e w' ⟨rfl, hbel⟩))
    go_ret
    exact ⟨rfl, by assumption⟩
end Go.Proofs.Ytkdpileflddohaa
