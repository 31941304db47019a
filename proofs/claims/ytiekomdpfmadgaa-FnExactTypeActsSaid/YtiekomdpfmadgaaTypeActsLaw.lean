/- The law FnExactTypeActs as one call: for every input it returns true. -/
import Derived.Test.YtiekomdpfmadgaaFol5
import Derived.Test.YtiekomdpfmadgaaActO
import Derived.Test.YtiekomdpfmadgaaStruckO
namespace Go.Proofs.Ytiekomdpfmadgaa
open Go.RowKit
set_option linter.unusedVariables false
set_option linter.unusedSimpArgs false

set_option maxRecDepth 100000 in
set_option maxHeartbeats 4000000 in
theorem fnExactTypeActs_any (x0 : CarriageD) (A1 : Option Addr) (n1 c1 : Nat) (xs1 : List ActD) (w : World) (h0 : x0.good) (h1 : n1 ≤ maxLen ∧ Acts w A1 n1 xs1 ∧ ∀ x ∈ xs1, x.good) :
    Calls Try.prog 6 #[.agg #[.int .i64 x0.left, .int .i64 x0.right, .int .i64 x0.bell], .slice A1 n1 c1] w fun e w' => e = .returned (.bool true) ∧ Below w.heap.size w w' := by
  obtain ⟨hm1, P1, hg1⟩ := h1
  have hm1' := hm1
  unfold maxLen at hm1'
  replace hg1 := Lib.hid hg1
  replace h0 := Lib.hid h0
  have hrefl1 := Lib.hid (eqActs_refl xs1)
  have PP1 := Lib.hid P1
  go_enter Try.func6, Try.ntmps6
  go_wp2_with fail
  refine (szActS_any A1 n1 c1 1048576 xs1 _ (P1.below (below_a1 _ _)) hg1.out (by omega) (by omega) hm1).mono ?_
  rintro e w1 ⟨l1, rfl, hla1, hlb1, hlc1, hb1⟩
  have Bb00 : w1.cell? ⟨w.heap.size, 0, none⟩ = some (.int .i64 x0.left) := cell_step (cell_new (by simp) rfl) hb1
  have Bb01 : w1.cell? ⟨w.heap.size, 1, none⟩ = some (.int .i64 x0.right) := cell_step (cell_new (by simp) rfl) hb1
  have Bb02 : w1.cell? ⟨w.heap.size, 2, none⟩ = some (.int .i64 x0.bell) := cell_step (cell_new (by simp) rfl) hb1
  have hb1' := (below_a1 _ _).step hb1
  clear hb1
  have hb1 := hb1'
  clear hb1'
  have ltb00 := Lib.hid (World.block_lt_of_cell? _ _ Bb00)
  have ltb01 := World.block_lt_of_cell? _ _ Bb00
  simp only at ltb01
  replace P1 := P1.below hb1
  have hB1 := Lib.hid (hb1)
  have z1 := Lib.hid hb1.size
  clear hb1
  by_cases hbs1 : l1 < 0
  · go_wp2
    go_ret
    exact ⟨rfl, hB1.out⟩
  obtain ⟨hlen1, hsm1⟩ := hlc1 (by omega)
  have hn1 : n1 ≤ 1048576 := by omega
  clear hlc1
  go_wp2_with fail
  refine (toCarriage_any x0 _).mono ?_
  rintro e w2 ⟨rfl, hb2⟩
  replace Bb00 := cell_step Bb00 hb2
  replace Bb01 := cell_step Bb01 hb2
  replace Bb02 := cell_step Bb02 hb2
  have ltb02 := World.block_lt_of_cell? _ _ Bb00
  simp only at ltb02
  replace P1 := P1.below hb2
  have hB2 := Lib.hid (hB1.out.step hb2)
  clear hB1
  have z2 := Lib.hid hb2.size
  clear hb2
  go_wp2_with fail
  refine (toActS_own A1 n1 c1 xs1 _ P1 hn1).mono ?_
  rintro e w3 ⟨gS1, rfl, S1, hb3⟩
  replace Bb00 := cell_step Bb00 hb3
  replace Bb01 := cell_step Bb01 hb3
  replace Bb02 := cell_step Bb02 hb3
  have ltb03 := World.block_lt_of_cell? _ _ Bb00
  simp only at ltb03
  replace P1 := P1.below hb3
  have hB3 := Lib.hid (hB2.out.step hb3)
  clear hB2
  have z3 := Lib.hid hb3.size
  clear hb3
  replace S1 := S1.srow
  go_wp2_with fail
  refine (typed_spec x0 _ n1 n1 xs1 _ h0.out S1 hn1 hg1.out).mono ?_
  rintro e w4 ⟨AW, nW, cW, rfl, hnW, W, hb4⟩
  replace Bb00 := cell_step Bb00 hb4
  replace Bb01 := cell_step Bb01 hb4
  replace Bb02 := cell_step Bb02 hb4
  have ltb04 := World.block_lt_of_cell? _ _ Bb00
  simp only at ltb04
  replace P1 := P1.below hb4
  replace S1 := S1.below hb4
  have hB4 := Lib.hid (hB3.out.step hb4)
  clear hB3
  have z4 := Lib.hid hb4.size
  clear hb4
  replace W := W.srow
  have WW := Lib.hid W
  clear S1
  go_wp2_with fail
  refine (toActS_own A1 n1 c1 xs1 _ P1 hn1).mono ?_
  rintro e w5 ⟨gX1, rfl, X1, hb5⟩
  replace Bb00 := cell_step Bb00 hb5
  replace Bb01 := cell_step Bb01 hb5
  replace Bb02 := cell_step Bb02 hb5
  have ltb05 := World.block_lt_of_cell? _ _ Bb00
  simp only at ltb05
  replace P1 := P1.below hb5
  replace W := W.below hb5
  have hB5 := Lib.hid (hB4.out.step hb5)
  clear hB4
  have z5 := Lib.hid hb5.size
  clear hb5
  have ltX1 := Lib.hid (X1.lt)
  have owX1 := Lib.hid (X1.own)
  go_wp2_with fail
  refine (toCarriage_any x0 _).mono ?_
  rintro e w6 ⟨rfl, hb6⟩
  replace Bb00 := cell_step Bb00 hb6
  replace Bb01 := cell_step Bb01 hb6
  replace Bb02 := cell_step Bb02 hb6
  have ltb06 := World.block_lt_of_cell? _ _ Bb00
  simp only at ltb06
  replace P1 := P1.below hb6
  replace W := W.below hb6
  replace X1 := X1.below hb6
  have hB6 := Lib.hid (hB5.out.step hb6)
  clear hB5
  have z6 := Lib.hid hb6.size
  clear hb6
  go_wp2_with fail
  refine (typed_impl x0 _ n1 n1 xs1 _ h0.out X1.srow hn1 hg1.out).mono ?_
  rintro e w7 ⟨AG, nG, cG, rfl, hnG, G, hb7⟩
  replace Bb00 := cell_step Bb00 hb7
  replace Bb01 := cell_step Bb01 hb7
  replace Bb02 := cell_step Bb02 hb7
  have ltb07 := World.block_lt_of_cell? _ _ Bb00
  simp only at ltb07
  replace P1 := P1.below hb7
  replace W := W.below hb7
  replace X1 := X1.below hb7
  have hB7 := Lib.hid (hB6.out.step hb7)
  clear hB6
  have z7 := Lib.hid hb7.size
  clear hb7
  go_wp2_with fail
  refine (eqStruckS_any _ _ nG nW cG cW _ _ _ G.srow W (Nat.le_trans hnG (by decide)) (Nat.le_trans hnW (by decide))).mono ?_
  rintro e w8 ⟨rfl, hb8⟩
  replace Bb00 := cell_step Bb00 hb8
  replace Bb01 := cell_step Bb01 hb8
  replace Bb02 := cell_step Bb02 hb8
  have ltb08 := World.block_lt_of_cell? _ _ Bb00
  simp only at ltb08
  replace P1 := P1.below hb8
  replace W := W.below hb8
  replace X1 := X1.below hb8
  replace G := G.below hb8
  have hB8 := Lib.hid (hB7.out.step hb8)
  clear hB7
  have z8 := Lib.hid hb8.size
  clear hb8
  rw [eqStrucks_refl]
  go_wp2_with fail
  refine (toActS_own A1 n1 c1 xs1 _ P1 hn1).mono ?_
  rintro e w9 ⟨gZ1, rfl, Z1, hb9⟩
  replace Bb00 := cell_step Bb00 hb9
  replace Bb01 := cell_step Bb01 hb9
  replace Bb02 := cell_step Bb02 hb9
  have ltb09 := World.block_lt_of_cell? _ _ Bb00
  simp only at ltb09
  replace P1 := P1.below hb9
  replace W := W.below hb9
  replace X1 := X1.below hb9
  replace G := G.below hb9
  have hB9 := Lib.hid (hB8.out.step hb9)
  clear hB8
  have z9 := Lib.hid hb9.size
  clear hb9
  replace Z1 := Z1.srow
  go_wp2_with fail
  refine (eqActS_any _ _ n1 n1 n1 n1 xs1 xs1 _ X1.srow Z1 hm1 hm1).mono ?_
  rintro e w10 ⟨rfl, hb10⟩
  replace Bb00 := cell_step Bb00 hb10
  replace Bb01 := cell_step Bb01 hb10
  replace Bb02 := cell_step Bb02 hb10
  have ltb010 := World.block_lt_of_cell? _ _ Bb00
  simp only at ltb010
  replace P1 := P1.below hb10
  replace W := W.below hb10
  replace X1 := X1.below hb10
  replace G := G.below hb10
  replace Z1 := Z1.below hb10
  have hB10 := Lib.hid (hB9.out.step hb10)
  clear hB9
  have z10 := Lib.hid hb10.size
  clear hb10
  rw [hrefl1.out]
  clear Z1
  go_wp2_with fail
  refine (markActS_any _ n1 n1 (1) xs1 _ _ X1 hn1 (by omega) (by omega)).mono ?_
  rintro e w11 ⟨rfl, hX1, hgr11⟩
  have z11 := Lib.hid hgr11.size
  have lowq := Lib.hid (owX1.out)
  replace P1 := SRow.above (B := some ⟨gX1, 0, none⟩) P1 PP1.out hgr11 (fun q hq => by have y1 := z1.out; have y2 := z2.out; have y3 := z3.out; have y4 := z4.out; have y5 := z5.out; have y6 := z6.out; have y7 := z7.out; have y8 := z8.out; have y9 := z9.out; have y10 := z10.out; have y11 := z11.out; have l0 := lowq.out q hq; omega)
  replace W := SRow.above (B := some ⟨gX1, 0, none⟩) W WW.out hgr11 (fun q hq => by have y1 := z1.out; have y2 := z2.out; have y3 := z3.out; have y4 := z4.out; have y5 := z5.out; have y6 := z6.out; have y7 := z7.out; have y8 := z8.out; have y9 := z9.out; have y10 := z10.out; have y11 := z11.out; have l0 := lowq.out q hq; omega)
  replace G := ORow.kept (B := some ⟨gX1, 0, none⟩) G hgr11 (fun q hq => by have y1 := z1.out; have y2 := z2.out; have y3 := z3.out; have y4 := z4.out; have y5 := z5.out; have y6 := z6.out; have y7 := z7.out; have y8 := z8.out; have y9 := z9.out; have y10 := z10.out; have y11 := z11.out; have l0 := ltX1.out q hq; omega)
  replace Bb00 := cell_grown (B := some ⟨gX1, 0, none⟩) Bb00 hgr11 (fun q hq => by have y1 := z1.out; have y2 := z2.out; have y3 := z3.out; have y4 := z4.out; have y5 := z5.out; have y6 := z6.out; have y7 := z7.out; have y8 := z8.out; have y9 := z9.out; have y10 := z10.out; have y11 := z11.out; have l0 := lowq.out q hq; have l1 := ltb00.out; simp only; omega)
  replace Bb01 := cell_grown (B := some ⟨gX1, 0, none⟩) Bb01 hgr11 (fun q hq => by have y1 := z1.out; have y2 := z2.out; have y3 := z3.out; have y4 := z4.out; have y5 := z5.out; have y6 := z6.out; have y7 := z7.out; have y8 := z8.out; have y9 := z9.out; have y10 := z10.out; have y11 := z11.out; have l0 := lowq.out q hq; have l1 := ltb00.out; simp only; omega)
  replace Bb02 := cell_grown (B := some ⟨gX1, 0, none⟩) Bb02 hgr11 (fun q hq => by have y1 := z1.out; have y2 := z2.out; have y3 := z3.out; have y4 := z4.out; have y5 := z5.out; have y6 := z6.out; have y7 := z7.out; have y8 := z8.out; have y9 := z9.out; have y10 := z10.out; have y11 := z11.out; have l0 := lowq.out q hq; have l1 := ltb00.out; simp only; omega)
  have hB11 := Lib.hid (below_grown (A := some ⟨gX1, 0, none⟩) hB10.out (hB10.out.size) hgr11 (fun q hq => by have y1 := z1.out; have y2 := z2.out; have y3 := z3.out; have y4 := z4.out; have y5 := z5.out; have y6 := z6.out; have y7 := z7.out; have y8 := z8.out; have y9 := z9.out; have y10 := z10.out; have l0 := lowq.out q hq; omega))
  clear hB10 hgr11 lowq
  have ltb011 := World.block_lt_of_cell? _ _ Bb00
  simp only at ltb011
  clear hX1 X1
  have hkk : decide (1 + 2 * (n1 : Int) < 0) = false := decide_eq_false (by omega)
  go_wp2_with fail
  refine (eqStruckS_any _ _ nG nW cG cW _ _ _ G.srow W (Nat.le_trans hnG (by decide)) (Nat.le_trans hnW (by decide))).mono ?_
  rintro e w12 ⟨rfl, hb12⟩
  replace Bb00 := cell_step Bb00 hb12
  replace Bb01 := cell_step Bb01 hb12
  replace Bb02 := cell_step Bb02 hb12
  have ltb012 := World.block_lt_of_cell? _ _ Bb00
  simp only at ltb012
  replace P1 := P1.below hb12
  replace W := W.below hb12
  replace G := G.below hb12
  have hB12 := Lib.hid (hB11.out.step hb12)
  clear hB11
  have z12 := Lib.hid hb12.size
  clear hb12
  rw [eqStrucks_refl]
  have owG := Lib.hid G.own
  go_wp2_with fail
  refine (markStruckS_any _ nG cG 1 _ _ _ G hnG (by omega) (by omega)).mono ?_
  rintro e w13 ⟨rfl, M, hgr13⟩
  have z13 := Lib.hid hgr13.size
  have lowq := Lib.hid (owG.out)
  replace P1 := SRow.above (B := AG) P1 PP1.out hgr13 (fun q hq => by have y1 := z1.out; have y2 := z2.out; have y3 := z3.out; have y4 := z4.out; have y5 := z5.out; have y6 := z6.out; have y7 := z7.out; have y8 := z8.out; have y9 := z9.out; have y10 := z10.out; have y11 := z11.out; have y12 := z12.out; have y13 := z13.out; have l0 := lowq.out q hq; omega)
  replace W := SRow.above (B := AG) W WW.out hgr13 (fun q hq => by have y1 := z1.out; have y2 := z2.out; have y3 := z3.out; have y4 := z4.out; have y5 := z5.out; have y6 := z6.out; have y7 := z7.out; have y8 := z8.out; have y9 := z9.out; have y10 := z10.out; have y11 := z11.out; have y12 := z12.out; have y13 := z13.out; have l0 := lowq.out q hq; omega)
  replace Bb00 := cell_grown (B := AG) Bb00 hgr13 (fun q hq => by have y1 := z1.out; have y2 := z2.out; have y3 := z3.out; have y4 := z4.out; have y5 := z5.out; have y6 := z6.out; have y7 := z7.out; have y8 := z8.out; have y9 := z9.out; have y10 := z10.out; have y11 := z11.out; have y12 := z12.out; have y13 := z13.out; have l0 := lowq.out q hq; have l1 := ltb00.out; simp only; omega)
  replace Bb01 := cell_grown (B := AG) Bb01 hgr13 (fun q hq => by have y1 := z1.out; have y2 := z2.out; have y3 := z3.out; have y4 := z4.out; have y5 := z5.out; have y6 := z6.out; have y7 := z7.out; have y8 := z8.out; have y9 := z9.out; have y10 := z10.out; have y11 := z11.out; have y12 := z12.out; have y13 := z13.out; have l0 := lowq.out q hq; have l1 := ltb00.out; simp only; omega)
  replace Bb02 := cell_grown (B := AG) Bb02 hgr13 (fun q hq => by have y1 := z1.out; have y2 := z2.out; have y3 := z3.out; have y4 := z4.out; have y5 := z5.out; have y6 := z6.out; have y7 := z7.out; have y8 := z8.out; have y9 := z9.out; have y10 := z10.out; have y11 := z11.out; have y12 := z12.out; have y13 := z13.out; have l0 := lowq.out q hq; have l1 := ltb00.out; simp only; omega)
  have hB13 := Lib.hid (below_grown (A := AG) hB12.out (hB12.out.size) hgr13 (fun q hq => by have y1 := z1.out; have y2 := z2.out; have y3 := z3.out; have y4 := z4.out; have y5 := z5.out; have y6 := z6.out; have y7 := z7.out; have y8 := z8.out; have y9 := z9.out; have y10 := z10.out; have y11 := z11.out; have y12 := z12.out; have l0 := lowq.out q hq; omega))
  clear hB12 hgr13 lowq
  have ltb013 := World.block_lt_of_cell? _ _ Bb00
  simp only at ltb013
  clear G
  replace M := M.srow
  have hqq : decide (1 + 2 * (nG : Int) < 0) = false := decide_eq_false (by omega)
  go_wp2_with fail
  refine (heldStruckS_any _ nG cG 1 _ M hnG (by omega) (by omega)).mono ?_
  rintro e w14 ⟨rfl, hb14⟩
  replace Bb00 := cell_step Bb00 hb14
  replace Bb01 := cell_step Bb01 hb14
  replace Bb02 := cell_step Bb02 hb14
  have ltb014 := World.block_lt_of_cell? _ _ Bb00
  simp only at ltb014
  replace P1 := P1.below hb14
  replace W := W.below hb14
  replace M := M.below hb14
  have hB14 := Lib.hid (hB13.out.step hb14)
  clear hB13
  have z14 := Lib.hid hb14.size
  clear hb14
  go_wp2_with fail
  refine (toCarriage_any x0 _).mono ?_
  rintro e w15 ⟨rfl, hb15⟩
  replace Bb00 := cell_step Bb00 hb15
  replace Bb01 := cell_step Bb01 hb15
  replace Bb02 := cell_step Bb02 hb15
  have ltb015 := World.block_lt_of_cell? _ _ Bb00
  simp only at ltb015
  replace P1 := P1.below hb15
  replace W := W.below hb15
  replace M := M.below hb15
  have hB15 := Lib.hid (hB14.out.step hb15)
  clear hB14
  have z15 := Lib.hid hb15.size
  clear hb15
  go_wp2_with fail
  refine (toActS_own A1 n1 c1 xs1 _ P1 hn1).mono ?_
  rintro e w16 ⟨gY1, rfl, Y1, hb16⟩
  replace Bb00 := cell_step Bb00 hb16
  replace Bb01 := cell_step Bb01 hb16
  replace Bb02 := cell_step Bb02 hb16
  have ltb016 := World.block_lt_of_cell? _ _ Bb00
  simp only at ltb016
  replace P1 := P1.below hb16
  replace W := W.below hb16
  replace M := M.below hb16
  have hB16 := Lib.hid (hB15.out.step hb16)
  clear hB15
  have z16 := Lib.hid hb16.size
  clear hb16
  replace Y1 := Y1.srow
  go_wp2_with fail
  refine (typed_impl x0 _ n1 n1 xs1 _ h0.out Y1 hn1 hg1.out).mono ?_
  rintro e w17 ⟨AH, nH, cH, rfl, hnH, H, hb17⟩
  replace Bb00 := cell_step Bb00 hb17
  replace Bb01 := cell_step Bb01 hb17
  replace Bb02 := cell_step Bb02 hb17
  have ltb017 := World.block_lt_of_cell? _ _ Bb00
  simp only at ltb017
  replace P1 := P1.below hb17
  replace W := W.below hb17
  replace M := M.below hb17
  replace Y1 := Y1.below hb17
  have hB17 := Lib.hid (hB16.out.step hb17)
  clear hB16
  have z17 := Lib.hid hb17.size
  clear hb17
  replace H := H.srow
  clear Y1
  go_wp2_with fail
  refine (eqStruckS_any _ _ nH nW cH cW _ _ _ H W (Nat.le_trans hnH (by decide)) (Nat.le_trans hnW (by decide))).mono ?_
  rintro e w18 ⟨rfl, hb18⟩
  replace Bb00 := cell_step Bb00 hb18
  replace Bb01 := cell_step Bb01 hb18
  replace Bb02 := cell_step Bb02 hb18
  have ltb018 := World.block_lt_of_cell? _ _ Bb00
  simp only at ltb018
  replace P1 := P1.below hb18
  replace W := W.below hb18
  replace M := M.below hb18
  replace H := H.below hb18
  have hB18 := Lib.hid (hB17.out.step hb18)
  clear hB17
  have z18 := Lib.hid hb18.size
  clear hb18
  rw [eqStrucks_refl]
  go_wp2_with fail
  refine (heldStruckS_any _ nG cG 1 _ M hnG (by omega) (by omega)).mono ?_
  rintro e w19 ⟨rfl, hb19⟩
  replace Bb00 := cell_step Bb00 hb19
  replace Bb01 := cell_step Bb01 hb19
  replace Bb02 := cell_step Bb02 hb19
  have ltb019 := World.block_lt_of_cell? _ _ Bb00
  simp only at ltb019
  replace P1 := P1.below hb19
  replace W := W.below hb19
  replace M := M.below hb19
  replace H := H.below hb19
  have hB19 := Lib.hid (hB18.out.step hb19)
  clear hB18
  have z19 := Lib.hid hb19.size
  clear hb19
  have hw := Lib.hid (hB19.out)
  clear hB19
  go_wp2
  go_ret
  exact ⟨rfl, hw.out⟩
end Go.Proofs.Ytiekomdpfmadgaa
