/- The law FnExactPageMoves as one call: for every input it returns true. -/
import Derived.Test.YtcmmcgjpaabnoaaWm3
import Derived.Test.YtcmmcgjpaabnoaaStrA
import Derived.Test.YtcmmcgjpaabnoaaStrO
import Derived.Test.YtcmmcgjpaabnoaaIntO
namespace Go.Proofs.Ytcmmcgjpaabnoaa
open Go.RowKit
set_option linter.unusedVariables false
set_option linter.unusedSimpArgs false

set_option maxRecDepth 100000 in
set_option maxHeartbeats 4000000 in
theorem fnExactPageMoves_any (A0 : Option Addr) (n0 c0 : Nat) (xs0 : List Int) (A1 : Option Addr) (n1 c1 : Nat) (xs1 : List ByteArray) (w : World) (h0 : n0 ≤ maxLen ∧ Ints w A0 n0 xs0 ∧ ∀ x ∈ xs0, intGood x) (h1 : n1 ≤ maxLen ∧ Strs w A1 n1 xs1 ∧ ∀ x ∈ xs1, strGood x) :
    Calls Try.prog 8 #[.slice A0 n0 c0, .slice A1 n1 c1] w fun e w' => e = .returned (.bool true) ∧ Below w.heap.size w w' := by
  obtain ⟨hm0, P0, hg0⟩ := h0
  have hm0' := hm0
  unfold maxLen at hm0'
  replace hg0 := Lib.hid hg0
  obtain ⟨hm1, P1, hg1⟩ := h1
  have hm1' := hm1
  unfold maxLen at hm1'
  replace hg1 := Lib.hid hg1
  by_cases hbig0 : (1048576 : Int) < (n0 : Int)
  · go_enter Try.func8, Try.ntmps8
    go_wp2
    go_ret
    exact ⟨rfl, Below.refl _ _⟩
  have hn0 : n0 ≤ 1048576 := by omega
  have hgb0 : decide ((1048576 : Int) < (n0 : Int)) = false := decide_eq_false hbig0
  go_enter Try.func8, Try.ntmps8
  go_wp2_with fail
  refine (szStrS_any A1 n1 c1 1048576 xs1 _ P1 hg1.out (by omega) (by omega) hm1).mono ?_
  rintro e w1 ⟨l1, rfl, hla1, hlb1, hlc1, hb1⟩
  replace P0 := P0.below hb1
  replace P1 := P1.below hb1
  have hB1 := Lib.hid (hb1)
  clear hb1
  by_cases hbs1 : l1 < 0
  · go_wp2
    go_ret
    exact ⟨rfl, hB1.out⟩
  obtain ⟨hlen1, hsm1⟩ := hlc1 (by omega)
  have hn1 : n1 ≤ 1048576 := by omega
  clear hlc1
  go_wp2_with fail
  refine (toIntS_own A0 n0 c0 xs0 _ P0 hn0).mono ?_
  rintro e w2 ⟨gS0, rfl, S0, hb2⟩
  replace P0 := P0.below hb2
  replace P1 := P1.below hb2
  have hB2 := Lib.hid (hB1.out.step hb2)
  clear hB1
  clear hb2
  replace S0 := S0.srow
  go_wp2_with fail
  refine (toStrS_own A1 n1 c1 xs1 _ P1 hn1).mono ?_
  rintro e w3 ⟨gS1, rfl, S1, hb3⟩
  replace P0 := P0.below hb3
  replace P1 := P1.below hb3
  replace S0 := S0.below hb3
  have hB3 := Lib.hid (hB2.out.step hb3)
  clear hB2
  clear hb3
  replace S1 := S1.srow
  go_wp2_with fail
  refine (pg11_spec _ n0 n0 xs0 _ n1 n1 xs1 _ S0 hn0 hg0.out S1 hn1 hg1.out).mono ?_
  rintro e w4 ⟨rfl, hb4⟩
  replace P0 := P0.below hb4
  replace P1 := P1.below hb4
  replace S0 := S0.below hb4
  replace S1 := S1.below hb4
  have hB4 := Lib.hid (hB3.out.step hb4)
  clear hB3
  clear hb4
  clear S0
  clear S1
  go_wp2_with fail
  refine (toIntS_own A0 n0 c0 xs0 _ P0 hn0).mono ?_
  rintro e w5 ⟨gX0, rfl, X0, hb5⟩
  replace P0 := P0.below hb5
  replace P1 := P1.below hb5
  have hB5 := Lib.hid (hB4.out.step hb5)
  clear hB4
  clear hb5
  replace X0 := X0.srow
  go_wp2_with fail
  refine (toStrS_own A1 n1 c1 xs1 _ P1 hn1).mono ?_
  rintro e w6 ⟨gX1, rfl, X1, hb6⟩
  replace P0 := P0.below hb6
  replace P1 := P1.below hb6
  replace X0 := X0.below hb6
  have hB6 := Lib.hid (hB5.out.step hb6)
  clear hB5
  clear hb6
  replace X1 := X1.srow
  go_wp2_with fail
  refine (pg11_impl _ n0 n0 xs0 _ n1 n1 xs1 _ X0 hn0 hg0.out X1 hn1 hg1.out).mono ?_
  rintro e w7 ⟨rfl, hb7⟩
  replace P0 := P0.below hb7
  replace P1 := P1.below hb7
  replace X0 := X0.below hb7
  replace X1 := X1.below hb7
  have hB7 := Lib.hid (hB6.out.step hb7)
  clear hB6
  clear hb7
  go_wp2_with fail
  refine (toIntS_own A0 n0 c0 xs0 _ P0 hn0).mono ?_
  rintro e w8 ⟨gZ0, rfl, Z0, hb8⟩
  replace P0 := P0.below hb8
  replace P1 := P1.below hb8
  replace X0 := X0.below hb8
  replace X1 := X1.below hb8
  have hB8 := Lib.hid (hB7.out.step hb8)
  clear hB7
  clear hb8
  replace Z0 := Z0.srow
  go_wp2_with fail
  refine (eqIntS_any _ _ n0 n0 n0 n0 xs0 xs0 _ X0 Z0 rfl hn0).mono ?_
  rintro e w9 ⟨rfl, hb9⟩
  replace P0 := P0.below hb9
  replace P1 := P1.below hb9
  replace X0 := X0.below hb9
  replace X1 := X1.below hb9
  replace Z0 := Z0.below hb9
  have hB9 := Lib.hid (hB8.out.step hb9)
  clear hB8
  clear hb9
  clear Z0
  clear X0
  go_wp2_with fail
  refine (toStrS_own A1 n1 c1 xs1 _ P1 hn1).mono ?_
  rintro e w10 ⟨gZ1, rfl, Z1, hb10⟩
  replace P0 := P0.below hb10
  replace P1 := P1.below hb10
  replace X1 := X1.below hb10
  have hB10 := Lib.hid (hB9.out.step hb10)
  clear hB9
  clear hb10
  replace Z1 := Z1.srow
  go_wp2_with fail
  refine (eqStrS_any _ _ n1 n1 n1 n1 xs1 xs1 _ X1 Z1 rfl hn1).mono ?_
  rintro e w11 ⟨rfl, hb11⟩
  replace P0 := P0.below hb11
  replace P1 := P1.below hb11
  replace X1 := X1.below hb11
  replace Z1 := Z1.below hb11
  have hB11 := Lib.hid (hB10.out.step hb11)
  clear hB10
  clear hb11
  clear Z1
  clear X1
  have hw := Lib.hid (hB11.out)
  clear hB11
  go_wp2
  go_ret
  exact ⟨rfl, hw.out⟩
end Go.Proofs.Ytcmmcgjpaabnoaa
