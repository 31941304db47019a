/- The law FnExactSameStruck as one call: for every input it returns true. -/
import Derived.Test.YtiekomdpfmadgaaCar3
import Derived.Test.YtiekomdpfmadgaaActO
import Derived.Test.YtiekomdpfmadgaaStruckO
namespace Go.Proofs.Ytiekomdpfmadgaa
open Go.RowKit
set_option linter.unusedVariables false
set_option linter.unusedSimpArgs false

set_option maxRecDepth 100000 in
set_option maxHeartbeats 4000000 in
theorem fnExactSameStruck_any (A0 : Option Addr) (n0 c0 : Nat) (xs0 : List StruckD) (A1 : Option Addr) (n1 c1 : Nat) (xs1 : List StruckD) (w : World) (h0 : n0 ≤ maxLen ∧ Strucks w A0 n0 xs0 ∧ ∀ x ∈ xs0, x.good) (h1 : n1 ≤ maxLen ∧ Strucks w A1 n1 xs1 ∧ ∀ x ∈ xs1, x.good) :
    Calls Try.prog 5 #[.slice A0 n0 c0, .slice A1 n1 c1] w fun e w' => e = .returned (.bool true) ∧ Below w.heap.size w w' := by
  obtain ⟨hm0, P0, hg0⟩ := h0
  have hm0' := hm0
  unfold maxLen at hm0'
  replace hg0 := Lib.hid hg0
  obtain ⟨hm1, P1, hg1⟩ := h1
  have hm1' := hm1
  unfold maxLen at hm1'
  replace hg1 := Lib.hid hg1
  have hrefl0 := Lib.hid (eqStrucks_refl xs0)
  have hrefl1 := Lib.hid (eqStrucks_refl xs1)
  go_enter Try.func5, Try.ntmps5
  go_wp2_with fail
  refine (szStruckS_any A0 n0 c0 1048576 xs0 _ P0 hg0.out (by omega) (by omega) hm0).mono ?_
  rintro e w1 ⟨l0, rfl, hla0, hlb0, hlc0, hb1⟩
  replace P0 := P0.below hb1
  replace P1 := P1.below hb1
  have hB1 := Lib.hid (hb1)
  clear hb1
  by_cases hbs0 : l0 < 0
  · go_wp2
    go_ret
    exact ⟨rfl, hB1.out⟩
  obtain ⟨hlen0, hsm0⟩ := hlc0 (by omega)
  have hn0 : n0 ≤ 1048576 := by omega
  clear hlc0
  go_wp2_with fail
  refine (szStruckS_any A1 n1 c1 l0 xs1 _ P1 hg1.out (by omega) (by omega) hm1).mono ?_
  rintro e w2 ⟨l1, rfl, hla1, hlb1, hlc1, hb2⟩
  replace P0 := P0.below hb2
  replace P1 := P1.below hb2
  have hB2 := Lib.hid (hB1.out.step hb2)
  clear hB1
  clear hb2
  by_cases hbs1 : l1 < 0
  · go_wp2
    go_ret
    exact ⟨rfl, hB2.out⟩
  obtain ⟨hlen1, hsm1⟩ := hlc1 (by omega)
  have hn1 : n1 ≤ 1048576 := by omega
  clear hlc1
  go_wp2_with fail
  refine (toStruckS_own A0 n0 c0 xs0 _ P0 hn0).mono ?_
  rintro e w3 ⟨gS0, rfl, S0, hb3⟩
  replace P0 := P0.below hb3
  replace P1 := P1.below hb3
  have hB3 := Lib.hid (hB2.out.step hb3)
  clear hB2
  clear hb3
  replace S0 := S0.srow
  go_wp2_with fail
  refine (toStruckS_own A1 n1 c1 xs1 _ P1 hn1).mono ?_
  rintro e w4 ⟨gS1, rfl, S1, hb4⟩
  replace P0 := P0.below hb4
  replace P1 := P1.below hb4
  replace S0 := S0.below hb4
  have hB4 := Lib.hid (hB3.out.step hb4)
  clear hB3
  clear hb4
  replace S1 := S1.srow
  go_wp2_with fail
  refine (same_spec _ n0 n0 xs0 _ n1 n1 xs1 _ S0 hn0 hg0.out S1 hn1 hg1.out).mono ?_
  rintro e w5 ⟨rfl, hb5⟩
  replace P0 := P0.below hb5
  replace P1 := P1.below hb5
  replace S0 := S0.below hb5
  replace S1 := S1.below hb5
  have hB5 := Lib.hid (hB4.out.step hb5)
  clear hB4
  clear hb5
  clear S0
  clear S1
  go_wp2_with fail
  refine (toStruckS_own A0 n0 c0 xs0 _ P0 hn0).mono ?_
  rintro e w6 ⟨gX0, rfl, X0, hb6⟩
  replace P0 := P0.below hb6
  replace P1 := P1.below hb6
  have hB6 := Lib.hid (hB5.out.step hb6)
  clear hB5
  clear hb6
  replace X0 := X0.srow
  go_wp2_with fail
  refine (toStruckS_own A1 n1 c1 xs1 _ P1 hn1).mono ?_
  rintro e w7 ⟨gX1, rfl, X1, hb7⟩
  replace P0 := P0.below hb7
  replace P1 := P1.below hb7
  replace X0 := X0.below hb7
  have hB7 := Lib.hid (hB6.out.step hb7)
  clear hB6
  clear hb7
  replace X1 := X1.srow
  go_wp2_with fail
  refine (same_impl _ n0 n0 xs0 _ n1 n1 xs1 _ X0 hn0 hg0.out X1 hn1 hg1.out).mono ?_
  rintro e w8 ⟨rfl, hb8⟩
  replace P0 := P0.below hb8
  replace P1 := P1.below hb8
  replace X0 := X0.below hb8
  replace X1 := X1.below hb8
  have hB8 := Lib.hid (hB7.out.step hb8)
  clear hB7
  clear hb8
  go_wp2_with fail
  refine (toStruckS_own A0 n0 c0 xs0 _ P0 hn0).mono ?_
  rintro e w9 ⟨gZ0, rfl, Z0, hb9⟩
  replace P0 := P0.below hb9
  replace P1 := P1.below hb9
  replace X0 := X0.below hb9
  replace X1 := X1.below hb9
  have hB9 := Lib.hid (hB8.out.step hb9)
  clear hB8
  clear hb9
  replace Z0 := Z0.srow
  go_wp2_with fail
  refine (eqStruckS_any _ _ n0 n0 n0 n0 xs0 xs0 _ X0 Z0 hm0 hm0).mono ?_
  rintro e w10 ⟨rfl, hb10⟩
  replace P0 := P0.below hb10
  replace P1 := P1.below hb10
  replace X0 := X0.below hb10
  replace X1 := X1.below hb10
  replace Z0 := Z0.below hb10
  have hB10 := Lib.hid (hB9.out.step hb10)
  clear hB9
  clear hb10
  rw [hrefl0.out]
  clear Z0
  clear X0
  go_wp2_with fail
  refine (toStruckS_own A1 n1 c1 xs1 _ P1 hn1).mono ?_
  rintro e w11 ⟨gZ1, rfl, Z1, hb11⟩
  replace P0 := P0.below hb11
  replace P1 := P1.below hb11
  replace X1 := X1.below hb11
  have hB11 := Lib.hid (hB10.out.step hb11)
  clear hB10
  clear hb11
  replace Z1 := Z1.srow
  go_wp2_with fail
  refine (eqStruckS_any _ _ n1 n1 n1 n1 xs1 xs1 _ X1 Z1 hm1 hm1).mono ?_
  rintro e w12 ⟨rfl, hb12⟩
  replace P0 := P0.below hb12
  replace P1 := P1.below hb12
  replace X1 := X1.below hb12
  replace Z1 := Z1.below hb12
  have hB12 := Lib.hid (hB11.out.step hb12)
  clear hB11
  clear hb12
  rw [hrefl1.out]
  clear Z1
  clear X1
  have hw := Lib.hid (hB12.out)
  clear hB12
  go_wp2
  go_ret
  exact ⟨rfl, hw.out⟩
end Go.Proofs.Ytiekomdpfmadgaa
