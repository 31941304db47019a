/- The law FnExactPressesFor as one call: for every input it returns true. -/
import Derived.Test.YtndodlfmjdgpcaaKbPf
import Derived.Test.YtndodlfmjdgpcaaKeyO
import Derived.Test.YtndodlfmjdgpcaaAccentO
import Derived.Test.YtndodlfmjdgpcaaPressO
import Derived.Test.YtndodlfmjdgpcaaMarkT
namespace Go.Proofs.Ytndodlfmjdgpcaa
open Go.RowKit
set_option linter.unusedVariables false
set_option linter.unusedSimpArgs false

set_option maxRecDepth 100000 in
set_option maxHeartbeats 4000000 in
theorem fnExactPressesFor_any (A0 : Option Addr) (n0 c0 : Nat) (xs0 : List KeyD) (A1 : Option Addr) (n1 c1 : Nat) (xs1 : List AccentD) (s2 : ByteArray) (w : World) (h0 : n0 ≤ maxLen ∧ Keys w A0 n0 xs0 ∧ ∀ x ∈ xs0, x.good) (h1 : n1 ≤ maxLen ∧ Accents w A1 n1 xs1 ∧ ∀ x ∈ xs1, x.good) (h2 : s2.size ≤ maxLen) :
    Calls Try.prog 6 #[.slice A0 n0 c0, .slice A1 n1 c1, .string s2] w fun e w' => e = .returned (.bool true) ∧ Below w.heap.size w w' := by
  obtain ⟨hm0, P0, hg0⟩ := h0
  have hm0' := hm0
  unfold maxLen at hm0'
  replace hg0 := Lib.hid hg0
  obtain ⟨hm1, P1, hg1⟩ := h1
  have hm1' := hm1
  unfold maxLen at hm1'
  replace hg1 := Lib.hid hg1
  have h2' := h2
  unfold maxLen at h2'
  have hrefl0 := Lib.hid (eqKeys_refl xs0)
  have hrefl1 := Lib.hid (eqAccents_refl xs1)
  by_cases hbig2 : (1048576 : Int) < (s2.size : Int)
  · go_enter Try.func6, Try.ntmps6
    go_wp2
    go_ret
    exact ⟨rfl, Below.refl _ _⟩
  have hs2 : s2.size ≤ 1048576 := by omega
  have hgb2 : decide ((1048576 : Int) < (s2.size : Int)) = false := decide_eq_false hbig2
  have PP0 := Lib.hid P0
  have PP1 := Lib.hid P1
  go_enter Try.func6, Try.ntmps6
  go_wp2_with fail
  refine (szKeyS_any A0 n0 c0 1048576 xs0 _ P0 hg0.out (by omega) (by omega) hm0).mono ?_
  rintro e w1 ⟨l0, rfl, hla0, hlb0, hlc0, hb1⟩
  replace P0 := P0.below hb1
  replace P1 := P1.below hb1
  have hB1 := Lib.hid (hb1)
  have z1 := Lib.hid hb1.size
  clear hb1
  by_cases hbs0 : l0 < 0
  · go_wp2
    go_ret
    exact ⟨rfl, hB1.out⟩
  obtain ⟨hlen0, hsm0⟩ := hlc0 (by omega)
  have hn0 : n0 ≤ 1048576 := by omega
  clear hlc0
  go_wp2_with fail
  refine (szAccentS_any A1 n1 c1 l0 xs1 _ P1 hg1.out (by omega) (by omega) hm1).mono ?_
  rintro e w2 ⟨l1, rfl, hla1, hlb1, hlc1, hb2⟩
  replace P0 := P0.below hb2
  replace P1 := P1.below hb2
  have hB2 := Lib.hid (hB1.out.step hb2)
  clear hB1
  have z2 := Lib.hid hb2.size
  clear hb2
  by_cases hbs1 : l1 < 0
  · go_wp2
    go_ret
    exact ⟨rfl, hB2.out⟩
  obtain ⟨hlen1, hsm1⟩ := hlc1 (by omega)
  have hn1 : n1 ≤ 1048576 := by omega
  clear hlc1
  go_wp2_with fail
  refine (toKeyS_own A0 n0 c0 xs0 _ P0 hn0).mono ?_
  rintro e w3 ⟨gS0, rfl, S0, hb3⟩
  replace P0 := P0.below hb3
  replace P1 := P1.below hb3
  have hB3 := Lib.hid (hB2.out.step hb3)
  clear hB2
  have z3 := Lib.hid hb3.size
  clear hb3
  replace S0 := S0.srow
  go_wp2_with fail
  refine (toAccentS_own A1 n1 c1 xs1 _ P1 hn1).mono ?_
  rintro e w4 ⟨gS1, rfl, S1, hb4⟩
  replace P0 := P0.below hb4
  replace P1 := P1.below hb4
  replace S0 := S0.below hb4
  have hB4 := Lib.hid (hB3.out.step hb4)
  clear hB3
  have z4 := Lib.hid hb4.size
  clear hb4
  replace S1 := S1.srow
  go_wp2_with fail
  refine (pf_spec _ n0 n0 xs0 _ n1 n1 xs1 s2 _ S0 hn0 hg0.out S1 hn1 hg1.out hs2).mono ?_
  rintro e w5 ⟨AW, nW, cW, rfl, hnW, W, hb5⟩
  replace P0 := P0.below hb5
  replace P1 := P1.below hb5
  replace S0 := S0.below hb5
  replace S1 := S1.below hb5
  have hB5 := Lib.hid (hB4.out.step hb5)
  clear hB4
  have z5 := Lib.hid hb5.size
  clear hb5
  replace W := W.srow
  have WW := Lib.hid W
  clear S0
  clear S1
  go_wp2_with fail
  refine (toKeyS_own A0 n0 c0 xs0 _ P0 hn0).mono ?_
  rintro e w6 ⟨gX0, rfl, X0, hb6⟩
  replace P0 := P0.below hb6
  replace P1 := P1.below hb6
  replace W := W.below hb6
  have hB6 := Lib.hid (hB5.out.step hb6)
  clear hB5
  have z6 := Lib.hid hb6.size
  clear hb6
  have ltX0 := Lib.hid (X0.lt)
  have owX0 := Lib.hid (X0.own)
  go_wp2_with fail
  refine (toAccentS_own A1 n1 c1 xs1 _ P1 hn1).mono ?_
  rintro e w7 ⟨gX1, rfl, X1, hb7⟩
  replace P0 := P0.below hb7
  replace P1 := P1.below hb7
  replace W := W.below hb7
  replace X0 := X0.below hb7
  have hB7 := Lib.hid (hB6.out.step hb7)
  clear hB6
  have z7 := Lib.hid hb7.size
  clear hb7
  have ltX1 := Lib.hid (X1.lt)
  have owX1 := Lib.hid (X1.own)
  go_wp2_with fail
  refine (pf_impl _ n0 n0 xs0 _ n1 n1 xs1 s2 _ X0.srow hn0 hg0.out X1.srow hn1 hg1.out hs2).mono ?_
  rintro e w8 ⟨AG, nG, cG, rfl, hnG, G, hb8⟩
  replace P0 := P0.below hb8
  replace P1 := P1.below hb8
  replace W := W.below hb8
  replace X0 := X0.below hb8
  replace X1 := X1.below hb8
  have hB8 := Lib.hid (hB7.out.step hb8)
  clear hB7
  have z8 := Lib.hid hb8.size
  clear hb8
  go_wp2_with fail
  refine (eqPressS_any _ _ nG nW cG cW _ _ _ G.srow W (Nat.le_trans hnG (by decide)) (Nat.le_trans hnW (by decide))).mono ?_
  rintro e w9 ⟨rfl, hb9⟩
  replace P0 := P0.below hb9
  replace P1 := P1.below hb9
  replace W := W.below hb9
  replace X0 := X0.below hb9
  replace X1 := X1.below hb9
  replace G := G.below hb9
  have hB9 := Lib.hid (hB8.out.step hb9)
  clear hB8
  have z9 := Lib.hid hb9.size
  clear hb9
  rw [eqPs_refl]
  go_wp2_with fail
  refine (toKeyS_own A0 n0 c0 xs0 _ P0 hn0).mono ?_
  rintro e w10 ⟨gZ0, rfl, Z0, hb10⟩
  replace P0 := P0.below hb10
  replace P1 := P1.below hb10
  replace W := W.below hb10
  replace X0 := X0.below hb10
  replace X1 := X1.below hb10
  replace G := G.below hb10
  have hB10 := Lib.hid (hB9.out.step hb10)
  clear hB9
  have z10 := Lib.hid hb10.size
  clear hb10
  replace Z0 := Z0.srow
  go_wp2_with fail
  refine (eqKeyS_any _ _ n0 n0 n0 n0 xs0 xs0 _ X0.srow Z0 hm0 hm0).mono ?_
  rintro e w11 ⟨rfl, hb11⟩
  replace P0 := P0.below hb11
  replace P1 := P1.below hb11
  replace W := W.below hb11
  replace X0 := X0.below hb11
  replace X1 := X1.below hb11
  replace G := G.below hb11
  replace Z0 := Z0.below hb11
  have hB11 := Lib.hid (hB10.out.step hb11)
  clear hB10
  have z11 := Lib.hid hb11.size
  clear hb11
  rw [hrefl0.out]
  clear Z0
  go_wp2_with fail
  refine (toAccentS_own A1 n1 c1 xs1 _ P1 hn1).mono ?_
  rintro e w12 ⟨gZ1, rfl, Z1, hb12⟩
  replace P0 := P0.below hb12
  replace P1 := P1.below hb12
  replace W := W.below hb12
  replace X0 := X0.below hb12
  replace X1 := X1.below hb12
  replace G := G.below hb12
  have hB12 := Lib.hid (hB11.out.step hb12)
  clear hB11
  have z12 := Lib.hid hb12.size
  clear hb12
  replace Z1 := Z1.srow
  go_wp2_with fail
  refine (eqAccentS_any _ _ n1 n1 n1 n1 xs1 xs1 _ X1.srow Z1 hm1 hm1).mono ?_
  rintro e w13 ⟨rfl, hb13⟩
  replace P0 := P0.below hb13
  replace P1 := P1.below hb13
  replace W := W.below hb13
  replace X0 := X0.below hb13
  replace X1 := X1.below hb13
  replace G := G.below hb13
  replace Z1 := Z1.below hb13
  have hB13 := Lib.hid (hB12.out.step hb13)
  clear hB12
  have z13 := Lib.hid hb13.size
  clear hb13
  rw [hrefl1.out]
  clear Z1
  go_wp2_with fail
  refine (markKeyS_any _ n0 n0 (1) xs0 _ _ X0 hn0 (by omega) (by omega)).mono ?_
  rintro e w14 ⟨rfl, hX0, hgr14⟩
  have z14 := Lib.hid hgr14.size
  have lowq := Lib.hid (owX0.out)
  replace P0 := SRow.above (B := some ⟨gX0, 0, none⟩) P0 PP0.out hgr14 (fun q hq => by have y1 := z1.out; have y2 := z2.out; have y3 := z3.out; have y4 := z4.out; have y5 := z5.out; have y6 := z6.out; have y7 := z7.out; have y8 := z8.out; have y9 := z9.out; have y10 := z10.out; have y11 := z11.out; have y12 := z12.out; have y13 := z13.out; have y14 := z14.out; have l0 := lowq.out q hq; omega)
  replace P1 := SRow.above (B := some ⟨gX0, 0, none⟩) P1 PP1.out hgr14 (fun q hq => by have y1 := z1.out; have y2 := z2.out; have y3 := z3.out; have y4 := z4.out; have y5 := z5.out; have y6 := z6.out; have y7 := z7.out; have y8 := z8.out; have y9 := z9.out; have y10 := z10.out; have y11 := z11.out; have y12 := z12.out; have y13 := z13.out; have y14 := z14.out; have l0 := lowq.out q hq; omega)
  replace W := SRow.above (B := some ⟨gX0, 0, none⟩) W WW.out hgr14 (fun q hq => by have y1 := z1.out; have y2 := z2.out; have y3 := z3.out; have y4 := z4.out; have y5 := z5.out; have y6 := z6.out; have y7 := z7.out; have y8 := z8.out; have y9 := z9.out; have y10 := z10.out; have y11 := z11.out; have y12 := z12.out; have y13 := z13.out; have y14 := z14.out; have l0 := lowq.out q hq; omega)
  replace X1 := ORow.kept (B := some ⟨gX0, 0, none⟩) X1 hgr14 (fun q hq => by have y1 := z1.out; have y2 := z2.out; have y3 := z3.out; have y4 := z4.out; have y5 := z5.out; have y6 := z6.out; have y7 := z7.out; have y8 := z8.out; have y9 := z9.out; have y10 := z10.out; have y11 := z11.out; have y12 := z12.out; have y13 := z13.out; have y14 := z14.out; have l0 := ltX0.out q hq; omega)
  replace G := ORow.kept (B := some ⟨gX0, 0, none⟩) G hgr14 (fun q hq => by have y1 := z1.out; have y2 := z2.out; have y3 := z3.out; have y4 := z4.out; have y5 := z5.out; have y6 := z6.out; have y7 := z7.out; have y8 := z8.out; have y9 := z9.out; have y10 := z10.out; have y11 := z11.out; have y12 := z12.out; have y13 := z13.out; have y14 := z14.out; have l0 := ltX0.out q hq; omega)
  have hB14 := Lib.hid (below_grown (A := some ⟨gX0, 0, none⟩) hB13.out (hB13.out.size) hgr14 (fun q hq => by have y1 := z1.out; have y2 := z2.out; have y3 := z3.out; have y4 := z4.out; have y5 := z5.out; have y6 := z6.out; have y7 := z7.out; have y8 := z8.out; have y9 := z9.out; have y10 := z10.out; have y11 := z11.out; have y12 := z12.out; have y13 := z13.out; have l0 := lowq.out q hq; omega))
  clear hB13 hgr14 lowq
  clear hX0 X0
  go_wp2_with fail
  refine (markAccentS_any _ n1 n1 (1 + 3 * (n0 : Int)) xs1 _ _ X1 hn1 (by omega) (by omega)).mono ?_
  rintro e w15 ⟨rfl, hX1, hgr15⟩
  have z15 := Lib.hid hgr15.size
  have lowq := Lib.hid (owX1.out)
  replace P0 := SRow.above (B := some ⟨gX1, 0, none⟩) P0 PP0.out hgr15 (fun q hq => by have y1 := z1.out; have y2 := z2.out; have y3 := z3.out; have y4 := z4.out; have y5 := z5.out; have y6 := z6.out; have y7 := z7.out; have y8 := z8.out; have y9 := z9.out; have y10 := z10.out; have y11 := z11.out; have y12 := z12.out; have y13 := z13.out; have y14 := z14.out; have y15 := z15.out; have l0 := lowq.out q hq; omega)
  replace P1 := SRow.above (B := some ⟨gX1, 0, none⟩) P1 PP1.out hgr15 (fun q hq => by have y1 := z1.out; have y2 := z2.out; have y3 := z3.out; have y4 := z4.out; have y5 := z5.out; have y6 := z6.out; have y7 := z7.out; have y8 := z8.out; have y9 := z9.out; have y10 := z10.out; have y11 := z11.out; have y12 := z12.out; have y13 := z13.out; have y14 := z14.out; have y15 := z15.out; have l0 := lowq.out q hq; omega)
  replace W := SRow.above (B := some ⟨gX1, 0, none⟩) W WW.out hgr15 (fun q hq => by have y1 := z1.out; have y2 := z2.out; have y3 := z3.out; have y4 := z4.out; have y5 := z5.out; have y6 := z6.out; have y7 := z7.out; have y8 := z8.out; have y9 := z9.out; have y10 := z10.out; have y11 := z11.out; have y12 := z12.out; have y13 := z13.out; have y14 := z14.out; have y15 := z15.out; have l0 := lowq.out q hq; omega)
  replace G := ORow.kept (B := some ⟨gX1, 0, none⟩) G hgr15 (fun q hq => by have y1 := z1.out; have y2 := z2.out; have y3 := z3.out; have y4 := z4.out; have y5 := z5.out; have y6 := z6.out; have y7 := z7.out; have y8 := z8.out; have y9 := z9.out; have y10 := z10.out; have y11 := z11.out; have y12 := z12.out; have y13 := z13.out; have y14 := z14.out; have y15 := z15.out; have l0 := ltX1.out q hq; omega)
  have hB15 := Lib.hid (below_grown (A := some ⟨gX1, 0, none⟩) hB14.out (hB14.out.size) hgr15 (fun q hq => by have y1 := z1.out; have y2 := z2.out; have y3 := z3.out; have y4 := z4.out; have y5 := z5.out; have y6 := z6.out; have y7 := z7.out; have y8 := z8.out; have y9 := z9.out; have y10 := z10.out; have y11 := z11.out; have y12 := z12.out; have y13 := z13.out; have y14 := z14.out; have l0 := lowq.out q hq; omega))
  clear hB14 hgr15 lowq
  clear hX1 X1
  have hkk : decide (1 + 3 * (n0 : Int) + 3 * (n1 : Int) < 0) = false := decide_eq_false (by omega)
  go_wp2_with fail
  refine (eqPressS_any _ _ nG nW cG cW _ _ _ G.srow W (Nat.le_trans hnG (by decide)) (Nat.le_trans hnW (by decide))).mono ?_
  rintro e w16 ⟨rfl, hb16⟩
  replace P0 := P0.below hb16
  replace P1 := P1.below hb16
  replace W := W.below hb16
  replace G := G.below hb16
  have hB16 := Lib.hid (hB15.out.step hb16)
  clear hB15
  have z16 := Lib.hid hb16.size
  clear hb16
  rw [eqPs_refl]
  have owG := Lib.hid G.own
  go_wp2_with fail
  refine (markPressS_any _ nG cG 1 _ _ _ G hnG (by omega) (by omega)).mono ?_
  rintro e w17 ⟨rfl, M, hgr17⟩
  have z17 := Lib.hid hgr17.size
  have lowq := Lib.hid (owG.out)
  replace P0 := SRow.above (B := AG) P0 PP0.out hgr17 (fun q hq => by have y1 := z1.out; have y2 := z2.out; have y3 := z3.out; have y4 := z4.out; have y5 := z5.out; have y6 := z6.out; have y7 := z7.out; have y8 := z8.out; have y9 := z9.out; have y10 := z10.out; have y11 := z11.out; have y12 := z12.out; have y13 := z13.out; have y14 := z14.out; have y15 := z15.out; have y16 := z16.out; have y17 := z17.out; have l0 := lowq.out q hq; omega)
  replace P1 := SRow.above (B := AG) P1 PP1.out hgr17 (fun q hq => by have y1 := z1.out; have y2 := z2.out; have y3 := z3.out; have y4 := z4.out; have y5 := z5.out; have y6 := z6.out; have y7 := z7.out; have y8 := z8.out; have y9 := z9.out; have y10 := z10.out; have y11 := z11.out; have y12 := z12.out; have y13 := z13.out; have y14 := z14.out; have y15 := z15.out; have y16 := z16.out; have y17 := z17.out; have l0 := lowq.out q hq; omega)
  replace W := SRow.above (B := AG) W WW.out hgr17 (fun q hq => by have y1 := z1.out; have y2 := z2.out; have y3 := z3.out; have y4 := z4.out; have y5 := z5.out; have y6 := z6.out; have y7 := z7.out; have y8 := z8.out; have y9 := z9.out; have y10 := z10.out; have y11 := z11.out; have y12 := z12.out; have y13 := z13.out; have y14 := z14.out; have y15 := z15.out; have y16 := z16.out; have y17 := z17.out; have l0 := lowq.out q hq; omega)
  have hB17 := Lib.hid (below_grown (A := AG) hB16.out (hB16.out.size) hgr17 (fun q hq => by have y1 := z1.out; have y2 := z2.out; have y3 := z3.out; have y4 := z4.out; have y5 := z5.out; have y6 := z6.out; have y7 := z7.out; have y8 := z8.out; have y9 := z9.out; have y10 := z10.out; have y11 := z11.out; have y12 := z12.out; have y13 := z13.out; have y14 := z14.out; have y15 := z15.out; have y16 := z16.out; have l0 := lowq.out q hq; omega))
  clear hB16 hgr17 lowq
  clear G
  replace M := M.srow
  have hqq : decide (1 + 2 * (nG : Int) < 0) = false := decide_eq_false (by omega)
  go_wp2_with fail
  refine (heldPressS_any _ nG cG 1 _ M hnG (by omega) (by omega)).mono ?_
  rintro e w18 ⟨rfl, hb18⟩
  replace P0 := P0.below hb18
  replace P1 := P1.below hb18
  replace W := W.below hb18
  replace M := M.below hb18
  have hB18 := Lib.hid (hB17.out.step hb18)
  clear hB17
  have z18 := Lib.hid hb18.size
  clear hb18
  go_wp2_with fail
  refine (toKeyS_own A0 n0 c0 xs0 _ P0 hn0).mono ?_
  rintro e w19 ⟨gY0, rfl, Y0, hb19⟩
  replace P0 := P0.below hb19
  replace P1 := P1.below hb19
  replace W := W.below hb19
  replace M := M.below hb19
  have hB19 := Lib.hid (hB18.out.step hb19)
  clear hB18
  have z19 := Lib.hid hb19.size
  clear hb19
  replace Y0 := Y0.srow
  go_wp2_with fail
  refine (toAccentS_own A1 n1 c1 xs1 _ P1 hn1).mono ?_
  rintro e w20 ⟨gY1, rfl, Y1, hb20⟩
  replace P0 := P0.below hb20
  replace P1 := P1.below hb20
  replace W := W.below hb20
  replace M := M.below hb20
  replace Y0 := Y0.below hb20
  have hB20 := Lib.hid (hB19.out.step hb20)
  clear hB19
  have z20 := Lib.hid hb20.size
  clear hb20
  replace Y1 := Y1.srow
  go_wp2_with fail
  refine (pf_impl _ n0 n0 xs0 _ n1 n1 xs1 s2 _ Y0 hn0 hg0.out Y1 hn1 hg1.out hs2).mono ?_
  rintro e w21 ⟨AH, nH, cH, rfl, hnH, H, hb21⟩
  replace P0 := P0.below hb21
  replace P1 := P1.below hb21
  replace W := W.below hb21
  replace M := M.below hb21
  replace Y0 := Y0.below hb21
  replace Y1 := Y1.below hb21
  have hB21 := Lib.hid (hB20.out.step hb21)
  clear hB20
  have z21 := Lib.hid hb21.size
  clear hb21
  replace H := H.srow
  clear Y0
  clear Y1
  go_wp2_with fail
  refine (eqPressS_any _ _ nH nW cH cW _ _ _ H W (Nat.le_trans hnH (by decide)) (Nat.le_trans hnW (by decide))).mono ?_
  rintro e w22 ⟨rfl, hb22⟩
  replace P0 := P0.below hb22
  replace P1 := P1.below hb22
  replace W := W.below hb22
  replace M := M.below hb22
  replace H := H.below hb22
  have hB22 := Lib.hid (hB21.out.step hb22)
  clear hB21
  have z22 := Lib.hid hb22.size
  clear hb22
  rw [eqPs_refl]
  go_wp2_with fail
  refine (heldPressS_any _ nG cG 1 _ M hnG (by omega) (by omega)).mono ?_
  rintro e w23 ⟨rfl, hb23⟩
  replace P0 := P0.below hb23
  replace P1 := P1.below hb23
  replace W := W.below hb23
  replace M := M.below hb23
  replace H := H.below hb23
  have hB23 := Lib.hid (hB22.out.step hb23)
  clear hB22
  have z23 := Lib.hid hb23.size
  clear hb23
  have hw := Lib.hid (hB23.out)
  clear hB23
  go_wp2
  go_ret
  exact ⟨rfl, hw.out⟩
end Go.Proofs.Ytndodlfmjdgpcaa
