/- The law FnExactRunPlan as one call: for every input it returns true. -/
import Derived.Test.YtcmmcgjpaabnoaaDoorRn3
import Derived.Test.YtcmmcgjpaabnoaaDoorIntO
namespace Go.Proofs.YtcmmcgjpaabnoaaDoor
open Go.RowKit
set_option linter.unusedVariables false
set_option linter.unusedSimpArgs false

set_option maxRecDepth 100000 in
set_option maxHeartbeats 4000000 in
theorem fnExactRunPlan_any (A0 : Option Addr) (n0 c0 : Nat) (xs0 : List Int) (s1 : ByteArray) (w : World) (h0 : n0 ≤ maxLen ∧ Ints w A0 n0 xs0 ∧ ∀ x ∈ xs0, intGood x) (h1 : s1.size ≤ maxLen) :
    Calls Tryd.prog 3 #[.slice A0 n0 c0, .string s1] w fun e w' => e = .returned (.bool true) ∧ Below w.heap.size w w' := by
  obtain ⟨hm0, P0, hg0⟩ := h0
  have hm0' := hm0
  unfold maxLen at hm0'
  replace hg0 := Lib.hid hg0
  have h1' := h1
  unfold maxLen at h1'
  by_cases hbig0 : (1048576 : Int) < (n0 : Int)
  · go_enter Tryd.func3, Tryd.ntmps3
    go_wp2
    go_ret
    exact ⟨rfl, Below.refl _ _⟩
  have hn0 : n0 ≤ 1048576 := by omega
  have hgb0 : decide ((1048576 : Int) < (n0 : Int)) = false := decide_eq_false hbig0
  by_cases hbig1 : (1048576 : Int) < (s1.size : Int)
  · go_enter Tryd.func3, Tryd.ntmps3
    go_wp2
    go_ret
    exact ⟨rfl, Below.refl _ _⟩
  have hs1 : s1.size ≤ 1048576 := by omega
  have hgb1 : decide ((1048576 : Int) < (s1.size : Int)) = false := decide_eq_false hbig1
  go_enter Tryd.func3, Tryd.ntmps3
  go_wp2_with fail
  refine (toIntS_own A0 n0 c0 xs0 _ P0 hn0).mono ?_
  rintro e w1 ⟨gS0, rfl, S0, hb1⟩
  replace P0 := P0.below hb1
  have hB1 := Lib.hid (hb1)
  clear hb1
  replace S0 := S0.srow
  go_wp2_with fail
  refine (ru11_spec _ n0 n0 xs0 s1 _ S0 hn0 hg0.out hs1).mono ?_
  rintro e w2 ⟨rfl, hb2⟩
  replace P0 := P0.below hb2
  replace S0 := S0.below hb2
  have hB2 := Lib.hid (hB1.out.step hb2)
  clear hB1
  clear hb2
  clear S0
  go_wp2_with fail
  refine (toIntS_own A0 n0 c0 xs0 _ P0 hn0).mono ?_
  rintro e w3 ⟨gX0, rfl, X0, hb3⟩
  replace P0 := P0.below hb3
  have hB3 := Lib.hid (hB2.out.step hb3)
  clear hB2
  clear hb3
  replace X0 := X0.srow
  go_wp2_with fail
  refine (ru11_impl _ n0 n0 xs0 s1 _ X0 hn0 hg0.out hs1).mono ?_
  rintro e w4 ⟨rfl, hb4⟩
  replace P0 := P0.below hb4
  replace X0 := X0.below hb4
  have hB4 := Lib.hid (hB3.out.step hb4)
  clear hB3
  clear hb4
  go_wp2_with fail
  refine (toIntS_own A0 n0 c0 xs0 _ P0 hn0).mono ?_
  rintro e w5 ⟨gZ0, rfl, Z0, hb5⟩
  replace P0 := P0.below hb5
  replace X0 := X0.below hb5
  have hB5 := Lib.hid (hB4.out.step hb5)
  clear hB4
  clear hb5
  replace Z0 := Z0.srow
  go_wp2_with fail
  refine (eqIntS_any _ _ n0 n0 n0 n0 xs0 xs0 _ X0 Z0 rfl hn0).mono ?_
  rintro e w6 ⟨rfl, hb6⟩
  replace P0 := P0.below hb6
  replace X0 := X0.below hb6
  replace Z0 := Z0.below hb6
  have hB6 := Lib.hid (hB5.out.step hb6)
  clear hB5
  clear hb6
  clear Z0
  clear X0
  have hw := Lib.hid (hB6.out)
  clear hB6
  go_wp2
  go_ret
  exact ⟨rfl, hw.out⟩
end Go.Proofs.YtcmmcgjpaabnoaaDoor
