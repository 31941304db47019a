/- The law FnExactClearStop as one call: for every input it returns true. -/
import Derived.Test.YtmeepihaghkcpaaTab2
import Derived.Test.YtmeepihaghkcpaaTab4
import Derived.Test.YtmeepihaghkcpaaIntO
namespace Go.Proofs.Ytmeepihaghkcpaa
open Go.RowKit
set_option linter.unusedVariables false
set_option linter.unusedSimpArgs false

set_option maxRecDepth 100000 in
set_option maxHeartbeats 4000000 in
theorem fnExactClearStop_any (A0 : Option Addr) (n0 c0 : Nat) (xs0 : List Int) (a1 : Int) (w : World) (h0 : n0 ≤ maxLen ∧ Ints w A0 n0 xs0 ∧ ∀ x ∈ xs0, intGood x) (h1 : (Lit.int .i64 a1).wf = true) :
    Calls Try.prog 5 #[.slice A0 n0 c0, .int .i64 a1] w fun e w' => e = .returned (.bool true) ∧ Below w.heap.size w w' := by
  have key0 := Lib.hid True.intro
  replace h1 := Lib.hid h1
  obtain ⟨hm0, P0, hg0⟩ := h0
  have hm0' := hm0
  unfold maxLen at hm0'
  replace hg0 := Lib.hid hg0
  by_cases hbig0 : (1048576 : Int) < (n0 : Int)
  · go_enter Try.func5, Try.ntmps5
    go_wp2
    go_ret
    exact ⟨rfl, Below.refl _ _⟩
  have hn0 : n0 ≤ 1048576 := by omega
  have hgb0 : decide ((1048576 : Int) < (n0 : Int)) = false := decide_eq_false hbig0
  have PP0 := Lib.hid P0
  go_enter Try.func5, Try.ntmps5
  go_wp2_with fail
  refine (toIntS_own A0 n0 c0 xs0 _ P0 hn0).mono ?_
  rintro e w1 ⟨gS0, rfl, S0, hb1⟩
  replace P0 := P0.below hb1
  have hB1 := Lib.hid (hb1)
  have z1 := Lib.hid hb1.size
  clear hb1
  replace S0 := S0.srow
  go_wp2_with fail
  refine (clear8_spec _ n0 n0 xs0 a1 _ S0 hn0 hg0.out h1.out).mono ?_
  rintro e w2 ⟨AW, nW, cW, rfl, hnW, W, hb2⟩
  replace P0 := P0.below hb2
  replace S0 := S0.below hb2
  have hB2 := Lib.hid (hB1.out.step hb2)
  clear hB1
  have z2 := Lib.hid hb2.size
  clear hb2
  replace W := W.srow
  have WW := Lib.hid W
  clear S0
  go_wp2_with fail
  refine (toIntS_own A0 n0 c0 xs0 _ P0 hn0).mono ?_
  rintro e w3 ⟨gX0, rfl, X0, hb3⟩
  replace P0 := P0.below hb3
  replace W := W.below hb3
  have hB3 := Lib.hid (hB2.out.step hb3)
  clear hB2
  have z3 := Lib.hid hb3.size
  clear hb3
  have ltX0 := Lib.hid (X0.lt)
  have owX0 := Lib.hid (X0.own)
  go_wp2_with fail
  refine (clear8_impl _ n0 n0 xs0 a1 _ X0.srow hn0 hg0.out h1.out).mono ?_
  rintro e w4 ⟨AG, nG, cG, rfl, hnG, G, hb4⟩
  replace P0 := P0.below hb4
  replace W := W.below hb4
  replace X0 := X0.below hb4
  have hB4 := Lib.hid (hB3.out.step hb4)
  clear hB3
  have z4 := Lib.hid hb4.size
  clear hb4
  go_wp2_with fail
  refine (eqIntS_any _ _ nG nW cG cW _ _ _ G.srow W rfl hnG).mono ?_
  rintro e w5 ⟨rfl, hb5⟩
  replace P0 := P0.below hb5
  replace W := W.below hb5
  replace X0 := X0.below hb5
  replace G := G.below hb5
  have hB5 := Lib.hid (hB4.out.step hb5)
  clear hB4
  have z5 := Lib.hid hb5.size
  clear hb5
  go_wp2_with fail
  refine (toIntS_own A0 n0 c0 xs0 _ P0 hn0).mono ?_
  rintro e w6 ⟨gZ0, rfl, Z0, hb6⟩
  replace P0 := P0.below hb6
  replace W := W.below hb6
  replace X0 := X0.below hb6
  replace G := G.below hb6
  have hB6 := Lib.hid (hB5.out.step hb6)
  clear hB5
  have z6 := Lib.hid hb6.size
  clear hb6
  replace Z0 := Z0.srow
  go_wp2_with fail
  refine (eqIntS_any _ _ n0 n0 n0 n0 xs0 xs0 _ X0.srow Z0 rfl hn0).mono ?_
  rintro e w7 ⟨rfl, hb7⟩
  replace P0 := P0.below hb7
  replace W := W.below hb7
  replace X0 := X0.below hb7
  replace G := G.below hb7
  replace Z0 := Z0.below hb7
  have hB7 := Lib.hid (hB6.out.step hb7)
  clear hB6
  have z7 := Lib.hid hb7.size
  clear hb7
  clear Z0
  go_wp2_with fail
  refine (markIntS_any _ n0 n0 (1) xs0 _ _ X0 hn0 (by omega) (by omega)).mono ?_
  rintro e w8 ⟨rfl, hX0, hgr8⟩
  have z8 := Lib.hid hgr8.size
  have lowq := Lib.hid (owX0.out)
  replace P0 := SRow.above (B := some ⟨gX0, 0, none⟩) P0 PP0.out hgr8 (fun q hq => by have y1 := z1.out; have y2 := z2.out; have y3 := z3.out; have y4 := z4.out; have y5 := z5.out; have y6 := z6.out; have y7 := z7.out; have y8 := z8.out; have l0 := lowq.out q hq; omega)
  replace W := SRow.above (B := some ⟨gX0, 0, none⟩) W WW.out hgr8 (fun q hq => by have y1 := z1.out; have y2 := z2.out; have y3 := z3.out; have y4 := z4.out; have y5 := z5.out; have y6 := z6.out; have y7 := z7.out; have y8 := z8.out; have l0 := lowq.out q hq; omega)
  replace G := ORow.kept (B := some ⟨gX0, 0, none⟩) G hgr8 (fun q hq => by have y1 := z1.out; have y2 := z2.out; have y3 := z3.out; have y4 := z4.out; have y5 := z5.out; have y6 := z6.out; have y7 := z7.out; have y8 := z8.out; have l0 := ltX0.out q hq; omega)
  have hB8 := Lib.hid (below_grown (A := some ⟨gX0, 0, none⟩) hB7.out (hB7.out.size) hgr8 (fun q hq => by have y1 := z1.out; have y2 := z2.out; have y3 := z3.out; have y4 := z4.out; have y5 := z5.out; have y6 := z6.out; have y7 := z7.out; have l0 := lowq.out q hq; omega))
  clear hB7 hgr8 lowq
  clear hX0 X0
  have hkk : decide (1 + (n0 : Int) < 0) = false := decide_eq_false (by omega)
  go_wp2_with fail
  refine (eqIntS_any _ _ nG nW cG cW _ _ _ G.srow W rfl hnG).mono ?_
  rintro e w9 ⟨rfl, hb9⟩
  replace P0 := P0.below hb9
  replace W := W.below hb9
  replace G := G.below hb9
  have hB9 := Lib.hid (hB8.out.step hb9)
  clear hB8
  have z9 := Lib.hid hb9.size
  clear hb9
  have owG := Lib.hid G.own
  go_wp2_with fail
  refine (markIntS_any _ nG cG 1 _ _ _ G hnG (by omega) (by omega)).mono ?_
  rintro e w10 ⟨rfl, M, hgr10⟩
  have z10 := Lib.hid hgr10.size
  have lowq := Lib.hid (owG.out)
  replace P0 := SRow.above (B := AG) P0 PP0.out hgr10 (fun q hq => by have y1 := z1.out; have y2 := z2.out; have y3 := z3.out; have y4 := z4.out; have y5 := z5.out; have y6 := z6.out; have y7 := z7.out; have y8 := z8.out; have y9 := z9.out; have y10 := z10.out; have l0 := lowq.out q hq; omega)
  replace W := SRow.above (B := AG) W WW.out hgr10 (fun q hq => by have y1 := z1.out; have y2 := z2.out; have y3 := z3.out; have y4 := z4.out; have y5 := z5.out; have y6 := z6.out; have y7 := z7.out; have y8 := z8.out; have y9 := z9.out; have y10 := z10.out; have l0 := lowq.out q hq; omega)
  have hB10 := Lib.hid (below_grown (A := AG) hB9.out (hB9.out.size) hgr10 (fun q hq => by have y1 := z1.out; have y2 := z2.out; have y3 := z3.out; have y4 := z4.out; have y5 := z5.out; have y6 := z6.out; have y7 := z7.out; have y8 := z8.out; have y9 := z9.out; have l0 := lowq.out q hq; omega))
  clear hB9 hgr10 lowq
  clear G
  replace M := M.srow
  have hqq : decide (1 + (nG : Int) < 0) = false := decide_eq_false (by omega)
  go_wp2_with fail
  refine (heldIntS_any _ nG cG 1 _ M hnG (by omega) (by omega)).mono ?_
  rintro e w11 ⟨rfl, hb11⟩
  replace P0 := P0.below hb11
  replace W := W.below hb11
  replace M := M.below hb11
  have hB11 := Lib.hid (hB10.out.step hb11)
  clear hB10
  have z11 := Lib.hid hb11.size
  clear hb11
  go_wp2_with fail
  refine (toIntS_own A0 n0 c0 xs0 _ P0 hn0).mono ?_
  rintro e w12 ⟨gY0, rfl, Y0, hb12⟩
  replace P0 := P0.below hb12
  replace W := W.below hb12
  replace M := M.below hb12
  have hB12 := Lib.hid (hB11.out.step hb12)
  clear hB11
  have z12 := Lib.hid hb12.size
  clear hb12
  replace Y0 := Y0.srow
  go_wp2_with fail
  refine (clear8_impl _ n0 n0 xs0 a1 _ Y0 hn0 hg0.out h1.out).mono ?_
  rintro e w13 ⟨AH, nH, cH, rfl, hnH, H, hb13⟩
  replace P0 := P0.below hb13
  replace W := W.below hb13
  replace M := M.below hb13
  replace Y0 := Y0.below hb13
  have hB13 := Lib.hid (hB12.out.step hb13)
  clear hB12
  have z13 := Lib.hid hb13.size
  clear hb13
  replace H := H.srow
  clear Y0
  go_wp2_with fail
  refine (eqIntS_any _ _ nH nW cH cW _ _ _ H W rfl hnH).mono ?_
  rintro e w14 ⟨rfl, hb14⟩
  replace P0 := P0.below hb14
  replace W := W.below hb14
  replace M := M.below hb14
  replace H := H.below hb14
  have hB14 := Lib.hid (hB13.out.step hb14)
  clear hB13
  have z14 := Lib.hid hb14.size
  clear hb14
  go_wp2_with fail
  refine (heldIntS_any _ nG cG 1 _ M hnG (by omega) (by omega)).mono ?_
  rintro e w15 ⟨rfl, hb15⟩
  replace P0 := P0.below hb15
  replace W := W.below hb15
  replace M := M.below hb15
  replace H := H.below hb15
  have hB15 := Lib.hid (hB14.out.step hb15)
  clear hB14
  have z15 := Lib.hid hb15.size
  clear hb15
  have hw := Lib.hid (hB15.out)
  clear hB15
  go_wp2
  go_ret
  exact ⟨rfl, hw.out⟩
end Go.Proofs.Ytmeepihaghkcpaa
