/- The law FnExactFewestErased as one call: for every input it returns true. -/
import Derived.Test.YtomnnhmhmehdjaaCo7
import Derived.Test.YtomnnhmhmehdjaaFeM
import Derived.Test.YtomnnhmhmehdjaaOverS
import Derived.Test.YtomnnhmhmehdjaaOverO
namespace Go.Proofs.Ytomnnhmhmehdjaa
open Go.RowKit
set_option linter.unusedVariables false
set_option linter.unusedSimpArgs false

set_option maxRecDepth 100000 in
set_option maxHeartbeats 4000000 in
theorem fnExactFewestErased_any (A0 : Option Addr) (n0 c0 : Nat) (xs0 : List OverD) (s1 : ByteArray) (s2 : ByteArray) (w : World) (h0 : n0 ≤ maxLen ∧ Overs w A0 n0 xs0 ∧ ∀ x ∈ xs0, x.good) (h1 : s1.size ≤ maxLen) (h2 : s2.size ≤ maxLen) :
    Calls Try.prog 8 #[.slice A0 n0 c0, .string s1, .string s2] w fun e w' => e = .returned (.bool true) ∧ Below w.heap.size w w' := by
  obtain ⟨hm0, P0, hg0⟩ := h0
  have hm0' := hm0
  unfold maxLen at hm0'
  replace hg0 := Lib.hid hg0
  have h1' := h1
  unfold maxLen at h1'
  have h2' := h2
  unfold maxLen at h2'
  have hrefl0 := Lib.hid (eqOvers_refl xs0)
  by_cases hbig1 : (1048576 : Int) < (s1.size : Int)
  · go_enter Try.func8, Try.ntmps8
    go_wp2
    go_ret
    exact ⟨rfl, Below.refl _ _⟩
  have hs1 : s1.size ≤ 1048576 := by omega
  have hgb1 : decide ((1048576 : Int) < (s1.size : Int)) = false := decide_eq_false hbig1
  by_cases hbig2 : (1048576 : Int) < (s2.size : Int)
  · go_enter Try.func8, Try.ntmps8
    go_wp2
    go_ret
    exact ⟨rfl, Below.refl _ _⟩
  have hs2 : s2.size ≤ 1048576 := by omega
  have hgb2 : decide ((1048576 : Int) < (s2.size : Int)) = false := decide_eq_false hbig2
  go_enter Try.func8, Try.ntmps8
  go_wp2_with fail
  refine (szOverS_any A0 n0 c0 1048576 xs0 _ P0 hg0.out (by omega) (by omega) hm0).mono ?_
  rintro e w1 ⟨l0, rfl, hla0, hlb0, hlc0, hb1⟩
  replace P0 := P0.below hb1
  have hB1 := Lib.hid (hb1)
  clear hb1
  by_cases hbs0 : l0 < 0
  · go_wp2
    go_ret
    exact ⟨rfl, hB1.out⟩
  obtain ⟨hlen0, hsm0⟩ := hlc0 (by omega)
  have hn0 : n0 ≤ 1048576 := by omega
  clear hlc0
  go_wp2_with fail
  refine (toOverS_own A0 n0 c0 xs0 _ P0 hn0).mono ?_
  rintro e w2 ⟨gS0, rfl, S0, hb2⟩
  replace P0 := P0.below hb2
  have hB2 := Lib.hid (hB1.out.step hb2)
  clear hB1
  clear hb2
  replace S0 := S0.srow
  go_wp2_with fail
  refine (fe12_spec _ n0 n0 xs0 s1 s2 _ S0 hn0 hg0.out hs1 hs2).mono ?_
  rintro e w3 ⟨rfl, hb3⟩
  replace P0 := P0.below hb3
  replace S0 := S0.below hb3
  have hB3 := Lib.hid (hB2.out.step hb3)
  clear hB2
  clear hb3
  clear S0
  go_wp2_with fail
  refine (toOverS_own A0 n0 c0 xs0 _ P0 hn0).mono ?_
  rintro e w4 ⟨gX0, rfl, X0, hb4⟩
  replace P0 := P0.below hb4
  have hB4 := Lib.hid (hB3.out.step hb4)
  clear hB3
  clear hb4
  replace X0 := X0.srow
  go_wp2_with fail
  refine (fe12_impl _ n0 n0 xs0 s1 s2 _ X0 hn0 hg0.out hs1 hs2).mono ?_
  rintro e w5 ⟨rfl, hb5⟩
  replace P0 := P0.below hb5
  replace X0 := X0.below hb5
  have hB5 := Lib.hid (hB4.out.step hb5)
  clear hB4
  clear hb5
  go_wp2_with fail
  refine (toOverS_own A0 n0 c0 xs0 _ P0 hn0).mono ?_
  rintro e w6 ⟨gZ0, rfl, Z0, hb6⟩
  replace P0 := P0.below hb6
  replace X0 := X0.below hb6
  have hB6 := Lib.hid (hB5.out.step hb6)
  clear hB5
  clear hb6
  replace Z0 := Z0.srow
  go_wp2_with fail
  refine (eqOverS_any _ _ n0 n0 n0 n0 xs0 xs0 _ X0 Z0 hm0 hm0).mono ?_
  rintro e w7 ⟨rfl, hb7⟩
  replace P0 := P0.below hb7
  replace X0 := X0.below hb7
  replace Z0 := Z0.below hb7
  have hB7 := Lib.hid (hB6.out.step hb7)
  clear hB6
  clear hb7
  rw [hrefl0.out]
  clear Z0
  clear X0
  have hw := Lib.hid (hB7.out)
  clear hB7
  go_wp2
  go_ret
  exact ⟨rfl, hw.out⟩
end Go.Proofs.Ytomnnhmhmehdjaa
