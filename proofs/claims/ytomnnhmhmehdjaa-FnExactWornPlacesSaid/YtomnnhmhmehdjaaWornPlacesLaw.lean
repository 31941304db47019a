/- The law FnExactWornPlaces as one call: for every input it returns true. -/
import Derived.Test.YtomnnhmhmehdjaaCo3
import Derived.Test.YtomnnhmhmehdjaaDd5
import Derived.Test.YtomnnhmhmehdjaaStrA
import Derived.Test.YtomnnhmhmehdjaaStrO
import Derived.Test.YtomnnhmhmehdjaaIntO
namespace Go.Proofs.Ytomnnhmhmehdjaa
open Go.RowKit
set_option linter.unusedVariables false
set_option linter.unusedSimpArgs false

set_option maxRecDepth 100000 in
set_option maxHeartbeats 4000000 in
theorem fnExactWornPlaces_any (A0 : Option Addr) (n0 c0 : Nat) (xs0 : List ByteArray) (w : World) (h0 : n0 ≤ maxLen ∧ Strs w A0 n0 xs0 ∧ ∀ x ∈ xs0, strGood x) :
    Calls Try.prog 9 #[.slice A0 n0 c0] w fun e w' => e = .returned (.bool true) ∧ Below w.heap.size w w' := by
  obtain ⟨hm0, P0, hg0⟩ := h0
  have hm0' := hm0
  unfold maxLen at hm0'
  replace hg0 := Lib.hid hg0
  have PP0 := Lib.hid P0
  go_enter Try.func9, Try.ntmps9
  go_wp2_with fail
  refine (szStrS_any A0 n0 c0 1048576 xs0 _ P0 hg0.out (by omega) (by omega) hm0).mono ?_
  rintro e w1 ⟨l0, rfl, hla0, hlb0, hlc0, hb1⟩
  replace P0 := P0.below hb1
  have hB1 := Lib.hid (hb1)
  have z1 := Lib.hid hb1.size
  clear hb1
  by_cases hbs0 : l0 < 0
  · go_wp2
    go_ret
    exact ⟨rfl, hB1.out⟩
  obtain ⟨hlen0, hsm0⟩ := hlc0 (by omega)
  have hn0 : n0 ≤ 1048576 := by omega
  clear hlc0
  go_wp2_with fail
  refine (toStrS_own A0 n0 c0 xs0 _ P0 hn0).mono ?_
  rintro e w2 ⟨gS0, rfl, S0, hb2⟩
  replace P0 := P0.below hb2
  have hB2 := Lib.hid (hB1.out.step hb2)
  clear hB1
  have z2 := Lib.hid hb2.size
  clear hb2
  replace S0 := S0.srow
  go_wp2_with fail
  refine (wo12_spec _ n0 n0 xs0 _ S0 hn0 hg0.out).mono ?_
  rintro e w3 ⟨AW, nW, cW, rfl, hnW, W, hb3⟩
  replace P0 := P0.below hb3
  replace S0 := S0.below hb3
  have hB3 := Lib.hid (hB2.out.step hb3)
  clear hB2
  have z3 := Lib.hid hb3.size
  clear hb3
  replace W := W.srow
  have WW := Lib.hid W
  clear S0
  go_wp2_with fail
  refine (toStrS_own A0 n0 c0 xs0 _ P0 hn0).mono ?_
  rintro e w4 ⟨gX0, rfl, X0, hb4⟩
  replace P0 := P0.below hb4
  replace W := W.below hb4
  have hB4 := Lib.hid (hB3.out.step hb4)
  clear hB3
  have z4 := Lib.hid hb4.size
  clear hb4
  have ltX0 := Lib.hid (X0.lt)
  have owX0 := Lib.hid (X0.own)
  go_wp2_with fail
  refine (wo12_impl _ n0 n0 xs0 _ X0.srow hn0 hg0.out).mono ?_
  rintro e w5 ⟨AG, nG, cG, rfl, hnG, G, hb5⟩
  replace P0 := P0.below hb5
  replace W := W.below hb5
  replace X0 := X0.below hb5
  have hB5 := Lib.hid (hB4.out.step hb5)
  clear hB4
  have z5 := Lib.hid hb5.size
  clear hb5
  go_wp2_with fail
  refine (eqIntS_any _ _ nG nW cG cW _ _ _ G.srow W rfl hnG).mono ?_
  rintro e w6 ⟨rfl, hb6⟩
  replace P0 := P0.below hb6
  replace W := W.below hb6
  replace X0 := X0.below hb6
  replace G := G.below hb6
  have hB6 := Lib.hid (hB5.out.step hb6)
  clear hB5
  have z6 := Lib.hid hb6.size
  clear hb6
  go_wp2_with fail
  refine (toStrS_own A0 n0 c0 xs0 _ P0 hn0).mono ?_
  rintro e w7 ⟨gZ0, rfl, Z0, hb7⟩
  replace P0 := P0.below hb7
  replace W := W.below hb7
  replace X0 := X0.below hb7
  replace G := G.below hb7
  have hB7 := Lib.hid (hB6.out.step hb7)
  clear hB6
  have z7 := Lib.hid hb7.size
  clear hb7
  replace Z0 := Z0.srow
  go_wp2_with fail
  refine (eqStrS_any _ _ n0 n0 n0 n0 xs0 xs0 _ X0.srow Z0 rfl hn0).mono ?_
  rintro e w8 ⟨rfl, hb8⟩
  replace P0 := P0.below hb8
  replace W := W.below hb8
  replace X0 := X0.below hb8
  replace G := G.below hb8
  replace Z0 := Z0.below hb8
  have hB8 := Lib.hid (hB7.out.step hb8)
  clear hB7
  have z8 := Lib.hid hb8.size
  clear hb8
  clear Z0
  go_wp2_with fail
  refine (markStrS_any _ n0 n0 (1) xs0 _ _ X0 hn0 (by omega) (by omega)).mono ?_
  rintro e w9 ⟨rfl, hX0, hgr9⟩
  have z9 := Lib.hid hgr9.size
  have lowq := Lib.hid (owX0.out)
  replace P0 := SRow.above (B := some ⟨gX0, 0, none⟩) P0 PP0.out hgr9 (fun q hq => by have y1 := z1.out; have y2 := z2.out; have y3 := z3.out; have y4 := z4.out; have y5 := z5.out; have y6 := z6.out; have y7 := z7.out; have y8 := z8.out; have y9 := z9.out; have l0 := lowq.out q hq; omega)
  replace W := SRow.above (B := some ⟨gX0, 0, none⟩) W WW.out hgr9 (fun q hq => by have y1 := z1.out; have y2 := z2.out; have y3 := z3.out; have y4 := z4.out; have y5 := z5.out; have y6 := z6.out; have y7 := z7.out; have y8 := z8.out; have y9 := z9.out; have l0 := lowq.out q hq; omega)
  replace G := ORow.kept (B := some ⟨gX0, 0, none⟩) G hgr9 (fun q hq => by have y1 := z1.out; have y2 := z2.out; have y3 := z3.out; have y4 := z4.out; have y5 := z5.out; have y6 := z6.out; have y7 := z7.out; have y8 := z8.out; have y9 := z9.out; have l0 := ltX0.out q hq; omega)
  have hB9 := Lib.hid (below_grown (A := some ⟨gX0, 0, none⟩) hB8.out (hB8.out.size) hgr9 (fun q hq => by have y1 := z1.out; have y2 := z2.out; have y3 := z3.out; have y4 := z4.out; have y5 := z5.out; have y6 := z6.out; have y7 := z7.out; have y8 := z8.out; have l0 := lowq.out q hq; omega))
  clear hB8 hgr9 lowq
  clear hX0 X0
  have hkk : decide (1 + (n0 : Int) < 0) = false := decide_eq_false (by omega)
  go_wp2_with fail
  refine (eqIntS_any _ _ nG nW cG cW _ _ _ G.srow W rfl hnG).mono ?_
  rintro e w10 ⟨rfl, hb10⟩
  replace P0 := P0.below hb10
  replace W := W.below hb10
  replace G := G.below hb10
  have hB10 := Lib.hid (hB9.out.step hb10)
  clear hB9
  have z10 := Lib.hid hb10.size
  clear hb10
  have owG := Lib.hid G.own
  go_wp2_with fail
  refine (markIntS_any _ nG cG 1 _ _ _ G hnG (by omega) (by omega)).mono ?_
  rintro e w11 ⟨rfl, M, hgr11⟩
  have z11 := Lib.hid hgr11.size
  have lowq := Lib.hid (owG.out)
  replace P0 := SRow.above (B := AG) P0 PP0.out hgr11 (fun q hq => by have y1 := z1.out; have y2 := z2.out; have y3 := z3.out; have y4 := z4.out; have y5 := z5.out; have y6 := z6.out; have y7 := z7.out; have y8 := z8.out; have y9 := z9.out; have y10 := z10.out; have y11 := z11.out; have l0 := lowq.out q hq; omega)
  replace W := SRow.above (B := AG) W WW.out hgr11 (fun q hq => by have y1 := z1.out; have y2 := z2.out; have y3 := z3.out; have y4 := z4.out; have y5 := z5.out; have y6 := z6.out; have y7 := z7.out; have y8 := z8.out; have y9 := z9.out; have y10 := z10.out; have y11 := z11.out; have l0 := lowq.out q hq; omega)
  have hB11 := Lib.hid (below_grown (A := AG) hB10.out (hB10.out.size) hgr11 (fun q hq => by have y1 := z1.out; have y2 := z2.out; have y3 := z3.out; have y4 := z4.out; have y5 := z5.out; have y6 := z6.out; have y7 := z7.out; have y8 := z8.out; have y9 := z9.out; have y10 := z10.out; have l0 := lowq.out q hq; omega))
  clear hB10 hgr11 lowq
  clear G
  replace M := M.srow
  have hqq : decide (1 + (nG : Int) < 0) = false := decide_eq_false (by omega)
  go_wp2_with fail
  refine (heldIntS_any _ nG cG 1 _ M hnG (by omega) (by omega)).mono ?_
  rintro e w12 ⟨rfl, hb12⟩
  replace P0 := P0.below hb12
  replace W := W.below hb12
  replace M := M.below hb12
  have hB12 := Lib.hid (hB11.out.step hb12)
  clear hB11
  have z12 := Lib.hid hb12.size
  clear hb12
  go_wp2_with fail
  refine (toStrS_own A0 n0 c0 xs0 _ P0 hn0).mono ?_
  rintro e w13 ⟨gY0, rfl, Y0, hb13⟩
  replace P0 := P0.below hb13
  replace W := W.below hb13
  replace M := M.below hb13
  have hB13 := Lib.hid (hB12.out.step hb13)
  clear hB12
  have z13 := Lib.hid hb13.size
  clear hb13
  replace Y0 := Y0.srow
  go_wp2_with fail
  refine (wo12_impl _ n0 n0 xs0 _ Y0 hn0 hg0.out).mono ?_
  rintro e w14 ⟨AH, nH, cH, rfl, hnH, H, hb14⟩
  replace P0 := P0.below hb14
  replace W := W.below hb14
  replace M := M.below hb14
  replace Y0 := Y0.below hb14
  have hB14 := Lib.hid (hB13.out.step hb14)
  clear hB13
  have z14 := Lib.hid hb14.size
  clear hb14
  replace H := H.srow
  clear Y0
  go_wp2_with fail
  refine (eqIntS_any _ _ nH nW cH cW _ _ _ H W rfl hnH).mono ?_
  rintro e w15 ⟨rfl, hb15⟩
  replace P0 := P0.below hb15
  replace W := W.below hb15
  replace M := M.below hb15
  replace H := H.below hb15
  have hB15 := Lib.hid (hB14.out.step hb15)
  clear hB14
  have z15 := Lib.hid hb15.size
  clear hb15
  go_wp2_with fail
  refine (heldIntS_any _ nG cG 1 _ M hnG (by omega) (by omega)).mono ?_
  rintro e w16 ⟨rfl, hb16⟩
  replace P0 := P0.below hb16
  replace W := W.below hb16
  replace M := M.below hb16
  replace H := H.below hb16
  have hB16 := Lib.hid (hB15.out.step hb16)
  clear hB15
  have z16 := Lib.hid hb16.size
  clear hb16
  have hw := Lib.hid (hB16.out)
  clear hB16
  go_wp2
  go_ret
  exact ⟨rfl, hw.out⟩
end Go.Proofs.Ytomnnhmhmehdjaa
