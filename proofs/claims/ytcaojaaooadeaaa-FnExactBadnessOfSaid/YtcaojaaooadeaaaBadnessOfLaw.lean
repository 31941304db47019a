/- The law FnExactBadnessOf as one call: for every input it returns true. -/
import Derived.Test.YtcaojaaooadeaaaLn7
import Derived.Test.YtcaojaaooadeaaaLn8
import Derived.Test.YtcaojaaooadeaaaStrA
import Derived.Test.YtcaojaaooadeaaaStrO
import Derived.Test.YtcaojaaooadeaaaIntO
namespace Go.Proofs.Ytcaojaaooadeaaa
open Go.RowKit
set_option linter.unusedVariables false
set_option linter.unusedSimpArgs false

set_option maxRecDepth 100000 in
set_option maxHeartbeats 4000000 in
theorem fnExactBadnessOf_any (A0 : Option Addr) (n0 c0 : Nat) (xs0 : List ByteArray) (a1 : Int) (A2 : Option Addr) (n2 c2 : Nat) (xs2 : List Int) (w : World) (h0 : n0 ≤ maxLen ∧ Strs w A0 n0 xs0 ∧ ∀ x ∈ xs0, strGood x) (h1 : (Lit.int .i64 a1).wf = true) (h2 : n2 ≤ maxLen ∧ Ints w A2 n2 xs2 ∧ ∀ x ∈ xs2, intGood x) :
    Calls Try.prog 5 #[.slice A0 n0 c0, .int .i64 a1, .slice A2 n2 c2] w fun e w' => e = .returned (.bool true) ∧ Below w.heap.size w w' := by
  have key0 := Lib.hid True.intro
  replace h1 := Lib.hid h1
  obtain ⟨hm0, P0, hg0⟩ := h0
  have hm0' := hm0
  unfold maxLen at hm0'
  replace hg0 := Lib.hid hg0
  obtain ⟨hm2, P2, hg2⟩ := h2
  have hm2' := hm2
  unfold maxLen at hm2'
  replace hg2 := Lib.hid hg2
  by_cases hbig2 : (1048576 : Int) < (n2 : Int)
  · go_enter Try.func5, Try.ntmps5
    go_wp2
    go_ret
    exact ⟨rfl, Below.refl _ _⟩
  have hn2 : n2 ≤ 1048576 := by omega
  have hgb2 : decide ((1048576 : Int) < (n2 : Int)) = false := decide_eq_false hbig2
  go_enter Try.func5, Try.ntmps5
  go_wp2_with fail
  refine (szStrS_any A0 n0 c0 1048576 xs0 _ P0 hg0.out (by omega) (by omega) hm0).mono ?_
  rintro e w1 ⟨l0, rfl, hla0, hlb0, hlc0, hb1⟩
  replace P0 := P0.below hb1
  replace P2 := P2.below hb1
  have hB1 := Lib.hid (hb1)
  clear hb1
  by_cases hbs0 : l0 < 0
  · go_wp2
    go_ret
    exact ⟨rfl, hB1.out⟩
  obtain ⟨hlen0, hsm0⟩ := hlc0 (by omega)
  have hn0 : n0 ≤ 1048576 := by omega
  clear hlc0
  go_wp2_with fail
  refine (toStrS_own A0 n0 c0 xs0 _ P0 hn0).mono ?_
  rintro e w2 ⟨gS0, rfl, S0, hb2⟩
  replace P0 := P0.below hb2
  replace P2 := P2.below hb2
  have hB2 := Lib.hid (hB1.out.step hb2)
  clear hB1
  clear hb2
  replace S0 := S0.srow
  go_wp2_with fail
  refine (toIntS_own A2 n2 c2 xs2 _ P2 hn2).mono ?_
  rintro e w3 ⟨gS2, rfl, S2, hb3⟩
  replace P0 := P0.below hb3
  replace P2 := P2.below hb3
  replace S0 := S0.below hb3
  have hB3 := Lib.hid (hB2.out.step hb3)
  clear hB2
  clear hb3
  replace S2 := S2.srow
  go_wp2_with fail
  refine (bd9_spec _ n0 n0 xs0 a1 _ n2 n2 xs2 _ S0 hn0 hg0.out h1.out S2 hn2 hg2.out).mono ?_
  rintro e w4 ⟨rfl, hb4⟩
  replace P0 := P0.below hb4
  replace P2 := P2.below hb4
  replace S0 := S0.below hb4
  replace S2 := S2.below hb4
  have hB4 := Lib.hid (hB3.out.step hb4)
  clear hB3
  clear hb4
  clear S0
  clear S2
  go_wp2_with fail
  refine (toStrS_own A0 n0 c0 xs0 _ P0 hn0).mono ?_
  rintro e w5 ⟨gX0, rfl, X0, hb5⟩
  replace P0 := P0.below hb5
  replace P2 := P2.below hb5
  have hB5 := Lib.hid (hB4.out.step hb5)
  clear hB4
  clear hb5
  replace X0 := X0.srow
  go_wp2_with fail
  refine (toIntS_own A2 n2 c2 xs2 _ P2 hn2).mono ?_
  rintro e w6 ⟨gX2, rfl, X2, hb6⟩
  replace P0 := P0.below hb6
  replace P2 := P2.below hb6
  replace X0 := X0.below hb6
  have hB6 := Lib.hid (hB5.out.step hb6)
  clear hB5
  clear hb6
  replace X2 := X2.srow
  go_wp2_with fail
  refine (bd9_impl _ n0 n0 xs0 a1 _ n2 n2 xs2 _ X0 hn0 hg0.out h1.out X2 hn2 hg2.out).mono ?_
  rintro e w7 ⟨rfl, hb7⟩
  replace P0 := P0.below hb7
  replace P2 := P2.below hb7
  replace X0 := X0.below hb7
  replace X2 := X2.below hb7
  have hB7 := Lib.hid (hB6.out.step hb7)
  clear hB6
  clear hb7
  go_wp2_with fail
  refine (toStrS_own A0 n0 c0 xs0 _ P0 hn0).mono ?_
  rintro e w8 ⟨gZ0, rfl, Z0, hb8⟩
  replace P0 := P0.below hb8
  replace P2 := P2.below hb8
  replace X0 := X0.below hb8
  replace X2 := X2.below hb8
  have hB8 := Lib.hid (hB7.out.step hb8)
  clear hB7
  clear hb8
  replace Z0 := Z0.srow
  go_wp2_with fail
  refine (eqStrS_any _ _ n0 n0 n0 n0 xs0 xs0 _ X0 Z0 rfl hn0).mono ?_
  rintro e w9 ⟨rfl, hb9⟩
  replace P0 := P0.below hb9
  replace P2 := P2.below hb9
  replace X0 := X0.below hb9
  replace X2 := X2.below hb9
  replace Z0 := Z0.below hb9
  have hB9 := Lib.hid (hB8.out.step hb9)
  clear hB8
  clear hb9
  clear Z0
  clear X0
  go_wp2_with fail
  refine (toIntS_own A2 n2 c2 xs2 _ P2 hn2).mono ?_
  rintro e w10 ⟨gZ2, rfl, Z2, hb10⟩
  replace P0 := P0.below hb10
  replace P2 := P2.below hb10
  replace X2 := X2.below hb10
  have hB10 := Lib.hid (hB9.out.step hb10)
  clear hB9
  clear hb10
  replace Z2 := Z2.srow
  go_wp2_with fail
  refine (eqIntS_any _ _ n2 n2 n2 n2 xs2 xs2 _ X2 Z2 rfl hn2).mono ?_
  rintro e w11 ⟨rfl, hb11⟩
  replace P0 := P0.below hb11
  replace P2 := P2.below hb11
  replace X2 := X2.below hb11
  replace Z2 := Z2.below hb11
  have hB11 := Lib.hid (hB10.out.step hb11)
  clear hB10
  clear hb11
  clear Z2
  clear X2
  have hw := Lib.hid (hB11.out)
  clear hB11
  go_wp2
  go_ret
  exact ⟨rfl, hw.out⟩
end Go.Proofs.Ytcaojaaooadeaaa
