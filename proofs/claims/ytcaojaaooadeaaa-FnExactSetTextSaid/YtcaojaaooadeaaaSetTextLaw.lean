/- The law FnExactSetText as one call: for every input it returns true. -/
import Derived.Test.YtcaojaaooadeaaaLn13
import Derived.Test.YtcaojaaooadeaaaStrA
import Derived.Test.YtcaojaaooadeaaaStrO
import Derived.Test.YtcaojaaooadeaaaIntO
namespace Go.Proofs.Ytcaojaaooadeaaa
open Go.RowKit
set_option linter.unusedVariables false
set_option linter.unusedSimpArgs false

set_option maxRecDepth 100000 in
set_option maxHeartbeats 4000000 in
theorem fnExactSetText_any (A0 : Option Addr) (n0 c0 : Nat) (xs0 : List ByteArray) (a1 : Int) (A2 : Option Addr) (n2 c2 : Nat) (xs2 : List Int) (w : World) (h0 : n0 ≤ maxLen ∧ Strs w A0 n0 xs0 ∧ ∀ x ∈ xs0, strGood x) (h1 : (Lit.int .i64 a1).wf = true) (h2 : n2 ≤ maxLen ∧ Ints w A2 n2 xs2 ∧ ∀ x ∈ xs2, intGood x) :
    Calls Try.prog 9 #[.slice A0 n0 c0, .int .i64 a1, .slice A2 n2 c2] w fun e w' => e = .returned (.bool true) ∧ Below w.heap.size w w' := by
  have key0 := Lib.hid True.intro
  replace h1 := Lib.hid h1
  obtain ⟨hm0, P0, hg0⟩ := h0
  have hm0' := hm0
  unfold maxLen at hm0'
  replace hg0 := Lib.hid hg0
  obtain ⟨hm2, P2, hg2⟩ := h2
  have hm2' := hm2
  unfold maxLen at hm2'
  replace hg2 := Lib.hid hg2
  by_cases hbig2 : (1048576 : Int) < (n2 : Int)
  · go_enter Try.func9, Try.ntmps9
    go_wp2
    go_ret
    exact ⟨rfl, Below.refl _ _⟩
  have hn2 : n2 ≤ 1048576 := by omega
  have hgb2 : decide ((1048576 : Int) < (n2 : Int)) = false := decide_eq_false hbig2
  have PP0 := Lib.hid P0
  have PP2 := Lib.hid P2
  go_enter Try.func9, Try.ntmps9
  go_wp2_with fail
  refine (szStrS_any A0 n0 c0 1048576 xs0 _ P0 hg0.out (by omega) (by omega) hm0).mono ?_
  rintro e w1 ⟨l0, rfl, hla0, hlb0, hlc0, hb1⟩
  replace P0 := P0.below hb1
  replace P2 := P2.below hb1
  have hB1 := Lib.hid (hb1)
  have z1 := Lib.hid hb1.size
  clear hb1
  by_cases hbs0 : l0 < 0
  · go_wp2
    go_ret
    exact ⟨rfl, hB1.out⟩
  obtain ⟨hlen0, hsm0⟩ := hlc0 (by omega)
  have hn0 : n0 ≤ 1048576 := by omega
  clear hlc0
  go_wp2_with fail
  refine (toStrS_own A0 n0 c0 xs0 _ P0 hn0).mono ?_
  rintro e w2 ⟨gS0, rfl, S0, hb2⟩
  replace P0 := P0.below hb2
  replace P2 := P2.below hb2
  have hB2 := Lib.hid (hB1.out.step hb2)
  clear hB1
  have z2 := Lib.hid hb2.size
  clear hb2
  replace S0 := S0.srow
  go_wp2_with fail
  refine (toIntS_own A2 n2 c2 xs2 _ P2 hn2).mono ?_
  rintro e w3 ⟨gS2, rfl, S2, hb3⟩
  replace P0 := P0.below hb3
  replace P2 := P2.below hb3
  replace S0 := S0.below hb3
  have hB3 := Lib.hid (hB2.out.step hb3)
  clear hB2
  have z3 := Lib.hid hb3.size
  clear hb3
  replace S2 := S2.srow
  go_wp2_with fail
  refine (st9_spec _ n0 n0 xs0 a1 _ n2 n2 xs2 _ S0 hn0 hg0.out h1.out S2 hn2 hg2.out).mono ?_
  rintro e w4 ⟨AW, nW, cW, rfl, hnW, W, hb4⟩
  replace P0 := P0.below hb4
  replace P2 := P2.below hb4
  replace S0 := S0.below hb4
  replace S2 := S2.below hb4
  have hB4 := Lib.hid (hB3.out.step hb4)
  clear hB3
  have z4 := Lib.hid hb4.size
  clear hb4
  replace W := W.srow
  have WW := Lib.hid W
  clear S0
  clear S2
  go_wp2_with fail
  refine (toStrS_own A0 n0 c0 xs0 _ P0 hn0).mono ?_
  rintro e w5 ⟨gX0, rfl, X0, hb5⟩
  replace P0 := P0.below hb5
  replace P2 := P2.below hb5
  replace W := W.below hb5
  have hB5 := Lib.hid (hB4.out.step hb5)
  clear hB4
  have z5 := Lib.hid hb5.size
  clear hb5
  have ltX0 := Lib.hid (X0.lt)
  have owX0 := Lib.hid (X0.own)
  go_wp2_with fail
  refine (toIntS_own A2 n2 c2 xs2 _ P2 hn2).mono ?_
  rintro e w6 ⟨gX2, rfl, X2, hb6⟩
  replace P0 := P0.below hb6
  replace P2 := P2.below hb6
  replace W := W.below hb6
  replace X0 := X0.below hb6
  have hB6 := Lib.hid (hB5.out.step hb6)
  clear hB5
  have z6 := Lib.hid hb6.size
  clear hb6
  have ltX2 := Lib.hid (X2.lt)
  have owX2 := Lib.hid (X2.own)
  go_wp2_with fail
  refine (st9_impl _ n0 n0 xs0 a1 _ n2 n2 xs2 _ X0.srow hn0 hg0.out h1.out X2.srow hn2 hg2.out).mono ?_
  rintro e w7 ⟨AG, nG, cG, rfl, hnG, G, hb7⟩
  replace P0 := P0.below hb7
  replace P2 := P2.below hb7
  replace W := W.below hb7
  replace X0 := X0.below hb7
  replace X2 := X2.below hb7
  have hB7 := Lib.hid (hB6.out.step hb7)
  clear hB6
  have z7 := Lib.hid hb7.size
  clear hb7
  go_wp2_with fail
  refine (eqStrS_any _ _ nG nW cG cW _ _ _ G.srow W rfl hnG).mono ?_
  rintro e w8 ⟨rfl, hb8⟩
  replace P0 := P0.below hb8
  replace P2 := P2.below hb8
  replace W := W.below hb8
  replace X0 := X0.below hb8
  replace X2 := X2.below hb8
  replace G := G.below hb8
  have hB8 := Lib.hid (hB7.out.step hb8)
  clear hB7
  have z8 := Lib.hid hb8.size
  clear hb8
  go_wp2_with fail
  refine (toStrS_own A0 n0 c0 xs0 _ P0 hn0).mono ?_
  rintro e w9 ⟨gZ0, rfl, Z0, hb9⟩
  replace P0 := P0.below hb9
  replace P2 := P2.below hb9
  replace W := W.below hb9
  replace X0 := X0.below hb9
  replace X2 := X2.below hb9
  replace G := G.below hb9
  have hB9 := Lib.hid (hB8.out.step hb9)
  clear hB8
  have z9 := Lib.hid hb9.size
  clear hb9
  replace Z0 := Z0.srow
  go_wp2_with fail
  refine (eqStrS_any _ _ n0 n0 n0 n0 xs0 xs0 _ X0.srow Z0 rfl hn0).mono ?_
  rintro e w10 ⟨rfl, hb10⟩
  replace P0 := P0.below hb10
  replace P2 := P2.below hb10
  replace W := W.below hb10
  replace X0 := X0.below hb10
  replace X2 := X2.below hb10
  replace G := G.below hb10
  replace Z0 := Z0.below hb10
  have hB10 := Lib.hid (hB9.out.step hb10)
  clear hB9
  have z10 := Lib.hid hb10.size
  clear hb10
  clear Z0
  go_wp2_with fail
  refine (toIntS_own A2 n2 c2 xs2 _ P2 hn2).mono ?_
  rintro e w11 ⟨gZ2, rfl, Z2, hb11⟩
  replace P0 := P0.below hb11
  replace P2 := P2.below hb11
  replace W := W.below hb11
  replace X0 := X0.below hb11
  replace X2 := X2.below hb11
  replace G := G.below hb11
  have hB11 := Lib.hid (hB10.out.step hb11)
  clear hB10
  have z11 := Lib.hid hb11.size
  clear hb11
  replace Z2 := Z2.srow
  go_wp2_with fail
  refine (eqIntS_any _ _ n2 n2 n2 n2 xs2 xs2 _ X2.srow Z2 rfl hn2).mono ?_
  rintro e w12 ⟨rfl, hb12⟩
  replace P0 := P0.below hb12
  replace P2 := P2.below hb12
  replace W := W.below hb12
  replace X0 := X0.below hb12
  replace X2 := X2.below hb12
  replace G := G.below hb12
  replace Z2 := Z2.below hb12
  have hB12 := Lib.hid (hB11.out.step hb12)
  clear hB11
  have z12 := Lib.hid hb12.size
  clear hb12
  clear Z2
  go_wp2_with fail
  refine (markStrS_any _ n0 n0 (1) xs0 _ _ X0 hn0 (by omega) (by omega)).mono ?_
  rintro e w13 ⟨rfl, hX0, hgr13⟩
  have z13 := Lib.hid hgr13.size
  have lowq := Lib.hid (owX0.out)
  replace P0 := SRow.above (B := some ⟨gX0, 0, none⟩) P0 PP0.out hgr13 (fun q hq => by have y1 := z1.out; have y2 := z2.out; have y3 := z3.out; have y4 := z4.out; have y5 := z5.out; have y6 := z6.out; have y7 := z7.out; have y8 := z8.out; have y9 := z9.out; have y10 := z10.out; have y11 := z11.out; have y12 := z12.out; have y13 := z13.out; have l0 := lowq.out q hq; omega)
  replace P2 := SRow.above (B := some ⟨gX0, 0, none⟩) P2 PP2.out hgr13 (fun q hq => by have y1 := z1.out; have y2 := z2.out; have y3 := z3.out; have y4 := z4.out; have y5 := z5.out; have y6 := z6.out; have y7 := z7.out; have y8 := z8.out; have y9 := z9.out; have y10 := z10.out; have y11 := z11.out; have y12 := z12.out; have y13 := z13.out; have l0 := lowq.out q hq; omega)
  replace W := SRow.above (B := some ⟨gX0, 0, none⟩) W WW.out hgr13 (fun q hq => by have y1 := z1.out; have y2 := z2.out; have y3 := z3.out; have y4 := z4.out; have y5 := z5.out; have y6 := z6.out; have y7 := z7.out; have y8 := z8.out; have y9 := z9.out; have y10 := z10.out; have y11 := z11.out; have y12 := z12.out; have y13 := z13.out; have l0 := lowq.out q hq; omega)
  replace X2 := ORow.kept (B := some ⟨gX0, 0, none⟩) X2 hgr13 (fun q hq => by have y1 := z1.out; have y2 := z2.out; have y3 := z3.out; have y4 := z4.out; have y5 := z5.out; have y6 := z6.out; have y7 := z7.out; have y8 := z8.out; have y9 := z9.out; have y10 := z10.out; have y11 := z11.out; have y12 := z12.out; have y13 := z13.out; have l0 := ltX0.out q hq; omega)
  replace G := ORow.kept (B := some ⟨gX0, 0, none⟩) G hgr13 (fun q hq => by have y1 := z1.out; have y2 := z2.out; have y3 := z3.out; have y4 := z4.out; have y5 := z5.out; have y6 := z6.out; have y7 := z7.out; have y8 := z8.out; have y9 := z9.out; have y10 := z10.out; have y11 := z11.out; have y12 := z12.out; have y13 := z13.out; have l0 := ltX0.out q hq; omega)
  have hB13 := Lib.hid (below_grown (A := some ⟨gX0, 0, none⟩) hB12.out (hB12.out.size) hgr13 (fun q hq => by have y1 := z1.out; have y2 := z2.out; have y3 := z3.out; have y4 := z4.out; have y5 := z5.out; have y6 := z6.out; have y7 := z7.out; have y8 := z8.out; have y9 := z9.out; have y10 := z10.out; have y11 := z11.out; have y12 := z12.out; have l0 := lowq.out q hq; omega))
  clear hB12 hgr13 lowq
  clear hX0 X0
  go_wp2_with fail
  refine (markIntS_any _ n2 n2 (1 + (n0 : Int)) xs2 _ _ X2 hn2 (by omega) (by omega)).mono ?_
  rintro e w14 ⟨rfl, hX2, hgr14⟩
  have z14 := Lib.hid hgr14.size
  have lowq := Lib.hid (owX2.out)
  replace P0 := SRow.above (B := some ⟨gX2, 0, none⟩) P0 PP0.out hgr14 (fun q hq => by have y1 := z1.out; have y2 := z2.out; have y3 := z3.out; have y4 := z4.out; have y5 := z5.out; have y6 := z6.out; have y7 := z7.out; have y8 := z8.out; have y9 := z9.out; have y10 := z10.out; have y11 := z11.out; have y12 := z12.out; have y13 := z13.out; have y14 := z14.out; have l0 := lowq.out q hq; omega)
  replace P2 := SRow.above (B := some ⟨gX2, 0, none⟩) P2 PP2.out hgr14 (fun q hq => by have y1 := z1.out; have y2 := z2.out; have y3 := z3.out; have y4 := z4.out; have y5 := z5.out; have y6 := z6.out; have y7 := z7.out; have y8 := z8.out; have y9 := z9.out; have y10 := z10.out; have y11 := z11.out; have y12 := z12.out; have y13 := z13.out; have y14 := z14.out; have l0 := lowq.out q hq; omega)
  replace W := SRow.above (B := some ⟨gX2, 0, none⟩) W WW.out hgr14 (fun q hq => by have y1 := z1.out; have y2 := z2.out; have y3 := z3.out; have y4 := z4.out; have y5 := z5.out; have y6 := z6.out; have y7 := z7.out; have y8 := z8.out; have y9 := z9.out; have y10 := z10.out; have y11 := z11.out; have y12 := z12.out; have y13 := z13.out; have y14 := z14.out; have l0 := lowq.out q hq; omega)
  replace G := ORow.kept (B := some ⟨gX2, 0, none⟩) G hgr14 (fun q hq => by have y1 := z1.out; have y2 := z2.out; have y3 := z3.out; have y4 := z4.out; have y5 := z5.out; have y6 := z6.out; have y7 := z7.out; have y8 := z8.out; have y9 := z9.out; have y10 := z10.out; have y11 := z11.out; have y12 := z12.out; have y13 := z13.out; have y14 := z14.out; have l0 := ltX2.out q hq; omega)
  have hB14 := Lib.hid (below_grown (A := some ⟨gX2, 0, none⟩) hB13.out (hB13.out.size) hgr14 (fun q hq => by have y1 := z1.out; have y2 := z2.out; have y3 := z3.out; have y4 := z4.out; have y5 := z5.out; have y6 := z6.out; have y7 := z7.out; have y8 := z8.out; have y9 := z9.out; have y10 := z10.out; have y11 := z11.out; have y12 := z12.out; have y13 := z13.out; have l0 := lowq.out q hq; omega))
  clear hB13 hgr14 lowq
  clear hX2 X2
  have hkk : decide (1 + (n0 : Int) + (n2 : Int) < 0) = false := decide_eq_false (by omega)
  go_wp2_with fail
  refine (eqStrS_any _ _ nG nW cG cW _ _ _ G.srow W rfl hnG).mono ?_
  rintro e w15 ⟨rfl, hb15⟩
  replace P0 := P0.below hb15
  replace P2 := P2.below hb15
  replace W := W.below hb15
  replace G := G.below hb15
  have hB15 := Lib.hid (hB14.out.step hb15)
  clear hB14
  have z15 := Lib.hid hb15.size
  clear hb15
  have owG := Lib.hid G.own
  go_wp2_with fail
  refine (markStrS_any _ nG cG 1 _ _ _ G hnG (by omega) (by omega)).mono ?_
  rintro e w16 ⟨rfl, M, hgr16⟩
  have z16 := Lib.hid hgr16.size
  have lowq := Lib.hid (owG.out)
  replace P0 := SRow.above (B := AG) P0 PP0.out hgr16 (fun q hq => by have y1 := z1.out; have y2 := z2.out; have y3 := z3.out; have y4 := z4.out; have y5 := z5.out; have y6 := z6.out; have y7 := z7.out; have y8 := z8.out; have y9 := z9.out; have y10 := z10.out; have y11 := z11.out; have y12 := z12.out; have y13 := z13.out; have y14 := z14.out; have y15 := z15.out; have y16 := z16.out; have l0 := lowq.out q hq; omega)
  replace P2 := SRow.above (B := AG) P2 PP2.out hgr16 (fun q hq => by have y1 := z1.out; have y2 := z2.out; have y3 := z3.out; have y4 := z4.out; have y5 := z5.out; have y6 := z6.out; have y7 := z7.out; have y8 := z8.out; have y9 := z9.out; have y10 := z10.out; have y11 := z11.out; have y12 := z12.out; have y13 := z13.out; have y14 := z14.out; have y15 := z15.out; have y16 := z16.out; have l0 := lowq.out q hq; omega)
  replace W := SRow.above (B := AG) W WW.out hgr16 (fun q hq => by have y1 := z1.out; have y2 := z2.out; have y3 := z3.out; have y4 := z4.out; have y5 := z5.out; have y6 := z6.out; have y7 := z7.out; have y8 := z8.out; have y9 := z9.out; have y10 := z10.out; have y11 := z11.out; have y12 := z12.out; have y13 := z13.out; have y14 := z14.out; have y15 := z15.out; have y16 := z16.out; have l0 := lowq.out q hq; omega)
  have hB16 := Lib.hid (below_grown (A := AG) hB15.out (hB15.out.size) hgr16 (fun q hq => by have y1 := z1.out; have y2 := z2.out; have y3 := z3.out; have y4 := z4.out; have y5 := z5.out; have y6 := z6.out; have y7 := z7.out; have y8 := z8.out; have y9 := z9.out; have y10 := z10.out; have y11 := z11.out; have y12 := z12.out; have y13 := z13.out; have y14 := z14.out; have y15 := z15.out; have l0 := lowq.out q hq; omega))
  clear hB15 hgr16 lowq
  clear G
  replace M := M.srow
  have hqq : decide (1 + (nG : Int) < 0) = false := decide_eq_false (by omega)
  go_wp2_with fail
  refine (heldStrS_any _ nG cG 1 _ M hnG (by omega) (by omega)).mono ?_
  rintro e w17 ⟨rfl, hb17⟩
  replace P0 := P0.below hb17
  replace P2 := P2.below hb17
  replace W := W.below hb17
  replace M := M.below hb17
  have hB17 := Lib.hid (hB16.out.step hb17)
  clear hB16
  have z17 := Lib.hid hb17.size
  clear hb17
  go_wp2_with fail
  refine (toStrS_own A0 n0 c0 xs0 _ P0 hn0).mono ?_
  rintro e w18 ⟨gY0, rfl, Y0, hb18⟩
  replace P0 := P0.below hb18
  replace P2 := P2.below hb18
  replace W := W.below hb18
  replace M := M.below hb18
  have hB18 := Lib.hid (hB17.out.step hb18)
  clear hB17
  have z18 := Lib.hid hb18.size
  clear hb18
  replace Y0 := Y0.srow
  go_wp2_with fail
  refine (toIntS_own A2 n2 c2 xs2 _ P2 hn2).mono ?_
  rintro e w19 ⟨gY2, rfl, Y2, hb19⟩
  replace P0 := P0.below hb19
  replace P2 := P2.below hb19
  replace W := W.below hb19
  replace M := M.below hb19
  replace Y0 := Y0.below hb19
  have hB19 := Lib.hid (hB18.out.step hb19)
  clear hB18
  have z19 := Lib.hid hb19.size
  clear hb19
  replace Y2 := Y2.srow
  go_wp2_with fail
  refine (st9_impl _ n0 n0 xs0 a1 _ n2 n2 xs2 _ Y0 hn0 hg0.out h1.out Y2 hn2 hg2.out).mono ?_
  rintro e w20 ⟨AH, nH, cH, rfl, hnH, H, hb20⟩
  replace P0 := P0.below hb20
  replace P2 := P2.below hb20
  replace W := W.below hb20
  replace M := M.below hb20
  replace Y0 := Y0.below hb20
  replace Y2 := Y2.below hb20
  have hB20 := Lib.hid (hB19.out.step hb20)
  clear hB19
  have z20 := Lib.hid hb20.size
  clear hb20
  replace H := H.srow
  clear Y0
  clear Y2
  go_wp2_with fail
  refine (eqStrS_any _ _ nH nW cH cW _ _ _ H W rfl hnH).mono ?_
  rintro e w21 ⟨rfl, hb21⟩
  replace P0 := P0.below hb21
  replace P2 := P2.below hb21
  replace W := W.below hb21
  replace M := M.below hb21
  replace H := H.below hb21
  have hB21 := Lib.hid (hB20.out.step hb21)
  clear hB20
  have z21 := Lib.hid hb21.size
  clear hb21
  go_wp2_with fail
  refine (heldStrS_any _ nG cG 1 _ M hnG (by omega) (by omega)).mono ?_
  rintro e w22 ⟨rfl, hb22⟩
  replace P0 := P0.below hb22
  replace P2 := P2.below hb22
  replace W := W.below hb22
  replace M := M.below hb22
  replace H := H.below hb22
  have hB22 := Lib.hid (hB21.out.step hb22)
  clear hB21
  have z22 := Lib.hid hb22.size
  clear hb22
  have hw := Lib.hid (hB22.out)
  clear hB22
  go_wp2
  go_ret
  exact ⟨rfl, hw.out⟩
end Go.Proofs.Ytcaojaaooadeaaa
