/- The law FnExactBestRibbon as one call: for every input it returns true. -/
import Derived.Test.YtceedmejmmoepaaDoorRe4
import Derived.Test.YtceedmejmmoepaaDoorRibbonS
import Derived.Test.YtceedmejmmoepaaDoorRibbonO
import Derived.Test.YtceedmejmmoepaaDoorIntO
import Derived.Test.YtceedmejmmoepaaDoorIntS
namespace Go.Proofs.YtceedmejmmoepaaDoor
open Go.RowKit
set_option linter.unusedVariables false
set_option linter.unusedSimpArgs false

set_option maxRecDepth 100000 in
set_option maxHeartbeats 4000000 in
theorem fnExactBestRibbon_any (ea : Addr) (A0 : Option Addr) (n0 c0 : Nat) (xs0 : List RibbonD) (A1 : Option Addr) (n1 c1 : Nat) (xs1 : List Int) (a2 : Int) (a3 : Int) (w : World) (h0 : n0 ≤ maxLen ∧ Ribbons w A0 n0 xs0 ∧ ∀ x ∈ xs0, x.good) (h1 : n1 ≤ maxLen ∧ Ints w A1 n1 xs1 ∧ ∀ x ∈ xs1, intGood x) (h2 : (Lit.int .i64 a2).wf = true) (h3 : (Lit.int .i64 a3).wf = true) (hE : ErrC ea w) :
    Calls Tryd.prog 5 #[.slice A0 n0 c0, .slice A1 n1 c1, .int .i64 a2, .int .i64 a3] w fun e w' => e = .returned (.bool true) ∧ Below w.heap.size w w' := by
  replace hE := Lib.hid hE
  have key0 := Lib.hid True.intro
  replace h2 := Lib.hid h2
  replace h3 := Lib.hid h3
  obtain ⟨hm0, P0, hg0⟩ := h0
  have hm0' := hm0
  unfold maxLen at hm0'
  replace hg0 := Lib.hid hg0
  obtain ⟨hm1, P1, hg1⟩ := h1
  have hm1' := hm1
  unfold maxLen at hm1'
  replace hg1 := Lib.hid hg1
  have hrefl0 := Lib.hid (eqRibbons_refl xs0)
  by_cases hbig1 : (1048576 : Int) < (n1 : Int)
  · go_enter Tryd.func5, Tryd.ntmps5
    go_wp2
    go_ret
    exact ⟨rfl, Below.refl _ _⟩
  have hn1 : n1 ≤ 1048576 := by omega
  have hgb1 : decide ((1048576 : Int) < (n1 : Int)) = false := decide_eq_false hbig1
  go_enter Tryd.func5, Tryd.ntmps5
  by_cases hbs0 : (1048576 : Int) - n0 < 0
  · go_wp2_with fail
    refine (szRibbonS_big A0 n0 c0 1048576 _ (by omega) (by omega) hm0 (by omega)).mono ?_
    rintro e w' ⟨rfl, rfl⟩
    go_wp2
    go_ret
    exact ⟨rfl, Below.refl _ _⟩
  go_wp2_with fail
  refine (szRibbonS_fits A0 n0 c0 1048576 _ (by omega) (by omega) hm0 (by omega)).mono ?_
  rintro e w' ⟨rfl, rfl⟩
  have hn0 : n0 ≤ 1048576 := by omega
  go_wp2_with fail
  refine (toRibbonS_own A0 n0 c0 xs0 _ P0 hn0).mono ?_
  rintro e w1 ⟨gS0, rfl, S0, hb1⟩
  replace P0 := P0.below hb1
  replace P1 := P1.below hb1
  have hB1 := Lib.hid (hb1)
  clear hb1
  replace S0 := S0.srow
  go_wp2_with fail
  refine (toIntS_own A1 n1 c1 xs1 _ P1 hn1).mono ?_
  rintro e w2 ⟨gS1, rfl, S1, hb2⟩
  replace P0 := P0.below hb2
  replace P1 := P1.below hb2
  replace S0 := S0.below hb2
  have hB2 := Lib.hid (hB1.out.step hb2)
  clear hB1
  clear hb2
  replace S1 := S1.srow
  go_wp2_with fail
  refine (br14_spec _ n0 n0 xs0 _ n1 n1 xs1 a2 a3 _ S0 hn0 hg0.out S1 hn1 hg1.out h2.out h3.out).mono ?_
  rintro e w3 ⟨rfl, hb3⟩
  replace P0 := P0.below hb3
  replace P1 := P1.below hb3
  replace S0 := S0.below hb3
  replace S1 := S1.below hb3
  have hB3 := Lib.hid (hB2.out.step hb3)
  clear hB2
  clear hb3
  clear S0
  clear S1
  go_wp2_with fail
  refine (toRibbonS_own A0 n0 c0 xs0 _ P0 hn0).mono ?_
  rintro e w4 ⟨gX0, rfl, X0, hb4⟩
  replace P0 := P0.below hb4
  replace P1 := P1.below hb4
  have hB4 := Lib.hid (hB3.out.step hb4)
  clear hB3
  clear hb4
  replace X0 := X0.srow
  go_wp2_with fail
  refine (toIntS_own A1 n1 c1 xs1 _ P1 hn1).mono ?_
  rintro e w5 ⟨gX1, rfl, X1, hb5⟩
  replace P0 := P0.below hb5
  replace P1 := P1.below hb5
  replace X0 := X0.below hb5
  have hB5 := Lib.hid (hB4.out.step hb5)
  clear hB4
  clear hb5
  replace X1 := X1.srow
  go_wp2_with fail
  refine (br14_impl ea _ n0 n0 xs0 _ n1 n1 xs1 a2 a3 _ X0 hn0 hg0.out X1 hn1 hg1.out h2.out h3.out (hE.out.step hB5.out)).mono ?_
  rintro e w6 ⟨rfl, hb6⟩
  replace P0 := P0.below hb6
  replace P1 := P1.below hb6
  replace X0 := X0.below hb6
  replace X1 := X1.below hb6
  have hB6 := Lib.hid (hB5.out.step hb6)
  clear hB5
  clear hb6
  go_wp2_with fail
  refine (toRibbonS_own A0 n0 c0 xs0 _ P0 hn0).mono ?_
  rintro e w7 ⟨gZ0, rfl, Z0, hb7⟩
  replace P0 := P0.below hb7
  replace P1 := P1.below hb7
  replace X0 := X0.below hb7
  replace X1 := X1.below hb7
  have hB7 := Lib.hid (hB6.out.step hb7)
  clear hB6
  clear hb7
  replace Z0 := Z0.srow
  go_wp2_with fail
  refine (eqRibbonS_any _ _ n0 n0 n0 n0 xs0 xs0 _ X0 Z0 hm0 hm0).mono ?_
  rintro e w8 ⟨rfl, hb8⟩
  replace P0 := P0.below hb8
  replace P1 := P1.below hb8
  replace X0 := X0.below hb8
  replace X1 := X1.below hb8
  replace Z0 := Z0.below hb8
  have hB8 := Lib.hid (hB7.out.step hb8)
  clear hB7
  clear hb8
  rw [hrefl0.out]
  clear Z0
  clear X0
  go_wp2_with fail
  refine (toIntS_own A1 n1 c1 xs1 _ P1 hn1).mono ?_
  rintro e w9 ⟨gZ1, rfl, Z1, hb9⟩
  replace P0 := P0.below hb9
  replace P1 := P1.below hb9
  replace X1 := X1.below hb9
  have hB9 := Lib.hid (hB8.out.step hb9)
  clear hB8
  clear hb9
  replace Z1 := Z1.srow
  go_wp2_with fail
  refine (eqIntS_any _ _ n1 n1 n1 n1 xs1 xs1 _ X1 Z1 rfl hn1).mono ?_
  rintro e w10 ⟨rfl, hb10⟩
  replace P0 := P0.below hb10
  replace P1 := P1.below hb10
  replace X1 := X1.below hb10
  replace Z1 := Z1.below hb10
  have hB10 := Lib.hid (hB9.out.step hb10)
  clear hB9
  clear hb10
  clear Z1
  clear X1
  have hw := Lib.hid (hB10.out)
  clear hB10
  go_wp2
  go_ret
  exact ⟨rfl, hw.out⟩
end Go.Proofs.YtceedmejmmoepaaDoor
