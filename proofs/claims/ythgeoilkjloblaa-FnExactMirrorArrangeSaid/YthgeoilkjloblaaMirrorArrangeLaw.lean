/- The law FnExactMirrorArrange as one call: for every input it returns true. -/
import Derived.Test.YthgeoilkjloblaaMir
import Derived.Test.YthgeoilkjloblaaIssO
import Derived.Test.YthgeoilkjloblaaArrC
namespace Go.Proofs.Ythgeoilkjloblaa
open Go.RowKit
set_option linter.unusedVariables false
set_option linter.unusedSimpArgs false

set_option maxRecDepth 100000 in
set_option maxHeartbeats 4000000 in
theorem fnExactMirrorArrange_any (x0 : BasketD) (A1 : Option Addr) (n1 c1 : Nat) (xs1 : List Int) (w : World) (h0 : x0.good) (h1 : n1 ≤ maxLen ∧ Ints w A1 n1 xs1 ∧ ∀ x ∈ xs1, intGood x) :
    Calls Try.prog 11 #[.agg #[.int .i64 x0.bars, .int .i64 x0.rise, .int .i64 x0.fall, .int .i64 x0.clear, .int .i64 x0.near], .slice A1 n1 c1] w fun e w' => e = .returned (.bool true) ∧ Below w.heap.size w w' := by
  obtain ⟨hm1, P1, hg1⟩ := h1
  have hm1' := hm1
  unfold maxLen at hm1'
  replace hg1 := Lib.hid hg1
  replace h0 := Lib.hid h0
  by_cases hbig1 : (1048576 : Int) < (n1 : Int)
  · go_enter Try.func11, Try.ntmps11
    go_wp2
    go_ret
    exact ⟨rfl, below_a1 _ _⟩
  have hn1 : n1 ≤ 1048576 := by omega
  have hgb1 : decide ((1048576 : Int) < (n1 : Int)) = false := decide_eq_false hbig1
  have PP1 := Lib.hid P1
  go_enter Try.func11, Try.ntmps11
  go_wp2_with fail
  refine (toBasket_any x0 _).mono ?_
  rintro e w1 ⟨rfl, hb1⟩
  have Bb00 : w1.cell? ⟨w.heap.size, 0, none⟩ = some (.int .i64 x0.bars) := cell_step (cell_new (by simp) rfl) hb1
  have Bb01 : w1.cell? ⟨w.heap.size, 1, none⟩ = some (.int .i64 x0.rise) := cell_step (cell_new (by simp) rfl) hb1
  have Bb02 : w1.cell? ⟨w.heap.size, 2, none⟩ = some (.int .i64 x0.fall) := cell_step (cell_new (by simp) rfl) hb1
  have Bb03 : w1.cell? ⟨w.heap.size, 3, none⟩ = some (.int .i64 x0.clear) := cell_step (cell_new (by simp) rfl) hb1
  have Bb04 : w1.cell? ⟨w.heap.size, 4, none⟩ = some (.int .i64 x0.near) := cell_step (cell_new (by simp) rfl) hb1
  have hb1' := (below_a1 _ _).step hb1
  clear hb1
  have hb1 := hb1'
  clear hb1'
  have ltb00 := Lib.hid (World.block_lt_of_cell? _ _ Bb00)
  have ltb01 := World.block_lt_of_cell? _ _ Bb00
  simp only at ltb01
  replace P1 := P1.below hb1
  have hB1 := Lib.hid (hb1)
  have z1 := Lib.hid hb1.size
  clear hb1
  go_wp2_with fail
  refine (toIntS_own A1 n1 c1 xs1 _ P1 hn1).mono ?_
  rintro e w2 ⟨gS1, rfl, S1, hb2⟩
  replace Bb00 := cell_step Bb00 hb2
  replace Bb01 := cell_step Bb01 hb2
  replace Bb02 := cell_step Bb02 hb2
  replace Bb03 := cell_step Bb03 hb2
  replace Bb04 := cell_step Bb04 hb2
  have ltb02 := World.block_lt_of_cell? _ _ Bb00
  simp only at ltb02
  replace P1 := P1.below hb2
  have hB2 := Lib.hid (hB1.out.step hb2)
  clear hB1
  have z2 := Lib.hid hb2.size
  clear hb2
  replace S1 := S1.srow
  go_wp2_with fail
  refine (mir_spec x0 _ n1 n1 xs1 _ h0.out S1 hn1 hg1.out).mono ?_
  rintro e w3 ⟨AW, nW, cW, rfl, hnW, W, hb3⟩
  replace Bb00 := cell_step Bb00 hb3
  replace Bb01 := cell_step Bb01 hb3
  replace Bb02 := cell_step Bb02 hb3
  replace Bb03 := cell_step Bb03 hb3
  replace Bb04 := cell_step Bb04 hb3
  have ltb03 := World.block_lt_of_cell? _ _ Bb00
  simp only at ltb03
  replace P1 := P1.below hb3
  replace S1 := S1.below hb3
  have hB3 := Lib.hid (hB2.out.step hb3)
  clear hB2
  have z3 := Lib.hid hb3.size
  clear hb3
  replace W := W.srow
  have WW := Lib.hid W
  clear S1
  go_wp2_with fail
  refine (toIntS_own A1 n1 c1 xs1 _ P1 hn1).mono ?_
  rintro e w4 ⟨gX1, rfl, X1, hb4⟩
  replace Bb00 := cell_step Bb00 hb4
  replace Bb01 := cell_step Bb01 hb4
  replace Bb02 := cell_step Bb02 hb4
  replace Bb03 := cell_step Bb03 hb4
  replace Bb04 := cell_step Bb04 hb4
  have ltb04 := World.block_lt_of_cell? _ _ Bb00
  simp only at ltb04
  replace P1 := P1.below hb4
  replace W := W.below hb4
  have hB4 := Lib.hid (hB3.out.step hb4)
  clear hB3
  have z4 := Lib.hid hb4.size
  clear hb4
  have ltX1 := Lib.hid (X1.lt)
  have owX1 := Lib.hid (X1.own)
  go_wp2_with fail
  refine (toBasket_any x0 _).mono ?_
  rintro e w5 ⟨rfl, hb5⟩
  replace Bb00 := cell_step Bb00 hb5
  replace Bb01 := cell_step Bb01 hb5
  replace Bb02 := cell_step Bb02 hb5
  replace Bb03 := cell_step Bb03 hb5
  replace Bb04 := cell_step Bb04 hb5
  have ltb05 := World.block_lt_of_cell? _ _ Bb00
  simp only at ltb05
  replace P1 := P1.below hb5
  replace W := W.below hb5
  replace X1 := X1.below hb5
  have hB5 := Lib.hid (hB4.out.step hb5)
  clear hB4
  have z5 := Lib.hid hb5.size
  clear hb5
  go_wp2_with fail
  refine (mir_impl x0 _ n1 n1 xs1 _ h0.out X1.srow hn1 hg1.out).mono ?_
  rintro e w6 ⟨AG, nG, cG, rfl, hnG, G, hb6⟩
  replace Bb00 := cell_step Bb00 hb6
  replace Bb01 := cell_step Bb01 hb6
  replace Bb02 := cell_step Bb02 hb6
  replace Bb03 := cell_step Bb03 hb6
  replace Bb04 := cell_step Bb04 hb6
  have ltb06 := World.block_lt_of_cell? _ _ Bb00
  simp only at ltb06
  replace P1 := P1.below hb6
  replace W := W.below hb6
  replace X1 := X1.below hb6
  have hB6 := Lib.hid (hB5.out.step hb6)
  clear hB5
  have z6 := Lib.hid hb6.size
  clear hb6
  go_wp2_with fail
  refine (eqIntS_any _ _ nG nW cG cW _ _ _ G.srow W rfl hnG).mono ?_
  rintro e w7 ⟨rfl, hb7⟩
  replace Bb00 := cell_step Bb00 hb7
  replace Bb01 := cell_step Bb01 hb7
  replace Bb02 := cell_step Bb02 hb7
  replace Bb03 := cell_step Bb03 hb7
  replace Bb04 := cell_step Bb04 hb7
  have ltb07 := World.block_lt_of_cell? _ _ Bb00
  simp only at ltb07
  replace P1 := P1.below hb7
  replace W := W.below hb7
  replace X1 := X1.below hb7
  replace G := G.below hb7
  have hB7 := Lib.hid (hB6.out.step hb7)
  clear hB6
  have z7 := Lib.hid hb7.size
  clear hb7
  go_wp2_with fail
  refine (toIntS_own A1 n1 c1 xs1 _ P1 hn1).mono ?_
  rintro e w8 ⟨gZ1, rfl, Z1, hb8⟩
  replace Bb00 := cell_step Bb00 hb8
  replace Bb01 := cell_step Bb01 hb8
  replace Bb02 := cell_step Bb02 hb8
  replace Bb03 := cell_step Bb03 hb8
  replace Bb04 := cell_step Bb04 hb8
  have ltb08 := World.block_lt_of_cell? _ _ Bb00
  simp only at ltb08
  replace P1 := P1.below hb8
  replace W := W.below hb8
  replace X1 := X1.below hb8
  replace G := G.below hb8
  have hB8 := Lib.hid (hB7.out.step hb8)
  clear hB7
  have z8 := Lib.hid hb8.size
  clear hb8
  replace Z1 := Z1.srow
  go_wp2_with fail
  refine (eqIntS_any _ _ n1 n1 n1 n1 xs1 xs1 _ X1.srow Z1 rfl hn1).mono ?_
  rintro e w9 ⟨rfl, hb9⟩
  replace Bb00 := cell_step Bb00 hb9
  replace Bb01 := cell_step Bb01 hb9
  replace Bb02 := cell_step Bb02 hb9
  replace Bb03 := cell_step Bb03 hb9
  replace Bb04 := cell_step Bb04 hb9
  have ltb09 := World.block_lt_of_cell? _ _ Bb00
  simp only at ltb09
  replace P1 := P1.below hb9
  replace W := W.below hb9
  replace X1 := X1.below hb9
  replace G := G.below hb9
  replace Z1 := Z1.below hb9
  have hB9 := Lib.hid (hB8.out.step hb9)
  clear hB8
  have z9 := Lib.hid hb9.size
  clear hb9
  clear Z1
  go_wp2_with fail
  refine (markIntS_any _ n1 n1 (1) xs1 _ _ X1 hn1 (by omega) (by omega)).mono ?_
  rintro e w10 ⟨rfl, hX1, hgr10⟩
  have z10 := Lib.hid hgr10.size
  have lowq := Lib.hid (owX1.out)
  replace P1 := SRow.above (B := some ⟨gX1, 0, none⟩) P1 PP1.out hgr10 (fun q hq => by have y1 := z1.out; have y2 := z2.out; have y3 := z3.out; have y4 := z4.out; have y5 := z5.out; have y6 := z6.out; have y7 := z7.out; have y8 := z8.out; have y9 := z9.out; have y10 := z10.out; have l0 := lowq.out q hq; omega)
  replace W := SRow.above (B := some ⟨gX1, 0, none⟩) W WW.out hgr10 (fun q hq => by have y1 := z1.out; have y2 := z2.out; have y3 := z3.out; have y4 := z4.out; have y5 := z5.out; have y6 := z6.out; have y7 := z7.out; have y8 := z8.out; have y9 := z9.out; have y10 := z10.out; have l0 := lowq.out q hq; omega)
  replace G := ORow.kept (B := some ⟨gX1, 0, none⟩) G hgr10 (fun q hq => by have y1 := z1.out; have y2 := z2.out; have y3 := z3.out; have y4 := z4.out; have y5 := z5.out; have y6 := z6.out; have y7 := z7.out; have y8 := z8.out; have y9 := z9.out; have y10 := z10.out; have l0 := ltX1.out q hq; omega)
  replace Bb00 := cell_grown (B := some ⟨gX1, 0, none⟩) Bb00 hgr10 (fun q hq => by have y1 := z1.out; have y2 := z2.out; have y3 := z3.out; have y4 := z4.out; have y5 := z5.out; have y6 := z6.out; have y7 := z7.out; have y8 := z8.out; have y9 := z9.out; have y10 := z10.out; have l0 := lowq.out q hq; have l1 := ltb00.out; simp only; omega)
  replace Bb01 := cell_grown (B := some ⟨gX1, 0, none⟩) Bb01 hgr10 (fun q hq => by have y1 := z1.out; have y2 := z2.out; have y3 := z3.out; have y4 := z4.out; have y5 := z5.out; have y6 := z6.out; have y7 := z7.out; have y8 := z8.out; have y9 := z9.out; have y10 := z10.out; have l0 := lowq.out q hq; have l1 := ltb00.out; simp only; omega)
  replace Bb02 := cell_grown (B := some ⟨gX1, 0, none⟩) Bb02 hgr10 (fun q hq => by have y1 := z1.out; have y2 := z2.out; have y3 := z3.out; have y4 := z4.out; have y5 := z5.out; have y6 := z6.out; have y7 := z7.out; have y8 := z8.out; have y9 := z9.out; have y10 := z10.out; have l0 := lowq.out q hq; have l1 := ltb00.out; simp only; omega)
  replace Bb03 := cell_grown (B := some ⟨gX1, 0, none⟩) Bb03 hgr10 (fun q hq => by have y1 := z1.out; have y2 := z2.out; have y3 := z3.out; have y4 := z4.out; have y5 := z5.out; have y6 := z6.out; have y7 := z7.out; have y8 := z8.out; have y9 := z9.out; have y10 := z10.out; have l0 := lowq.out q hq; have l1 := ltb00.out; simp only; omega)
  replace Bb04 := cell_grown (B := some ⟨gX1, 0, none⟩) Bb04 hgr10 (fun q hq => by have y1 := z1.out; have y2 := z2.out; have y3 := z3.out; have y4 := z4.out; have y5 := z5.out; have y6 := z6.out; have y7 := z7.out; have y8 := z8.out; have y9 := z9.out; have y10 := z10.out; have l0 := lowq.out q hq; have l1 := ltb00.out; simp only; omega)
  have hB10 := Lib.hid (below_grown (A := some ⟨gX1, 0, none⟩) hB9.out (hB9.out.size) hgr10 (fun q hq => by have y1 := z1.out; have y2 := z2.out; have y3 := z3.out; have y4 := z4.out; have y5 := z5.out; have y6 := z6.out; have y7 := z7.out; have y8 := z8.out; have y9 := z9.out; have l0 := lowq.out q hq; omega))
  clear hB9 hgr10 lowq
  have ltb010 := World.block_lt_of_cell? _ _ Bb00
  simp only at ltb010
  clear hX1 X1
  have hkk : decide (1 + (n1 : Int) < 0) = false := decide_eq_false (by omega)
  go_wp2_with fail
  refine (eqIntS_any _ _ nG nW cG cW _ _ _ G.srow W rfl hnG).mono ?_
  rintro e w11 ⟨rfl, hb11⟩
  replace Bb00 := cell_step Bb00 hb11
  replace Bb01 := cell_step Bb01 hb11
  replace Bb02 := cell_step Bb02 hb11
  replace Bb03 := cell_step Bb03 hb11
  replace Bb04 := cell_step Bb04 hb11
  have ltb011 := World.block_lt_of_cell? _ _ Bb00
  simp only at ltb011
  replace P1 := P1.below hb11
  replace W := W.below hb11
  replace G := G.below hb11
  have hB11 := Lib.hid (hB10.out.step hb11)
  clear hB10
  have z11 := Lib.hid hb11.size
  clear hb11
  have owG := Lib.hid G.own
  go_wp2_with fail
  refine (markIntS_any _ nG cG 1 _ _ _ G hnG (by omega) (by omega)).mono ?_
  rintro e w12 ⟨rfl, M, hgr12⟩
  have z12 := Lib.hid hgr12.size
  have lowq := Lib.hid (owG.out)
  replace P1 := SRow.above (B := AG) P1 PP1.out hgr12 (fun q hq => by have y1 := z1.out; have y2 := z2.out; have y3 := z3.out; have y4 := z4.out; have y5 := z5.out; have y6 := z6.out; have y7 := z7.out; have y8 := z8.out; have y9 := z9.out; have y10 := z10.out; have y11 := z11.out; have y12 := z12.out; have l0 := lowq.out q hq; omega)
  replace W := SRow.above (B := AG) W WW.out hgr12 (fun q hq => by have y1 := z1.out; have y2 := z2.out; have y3 := z3.out; have y4 := z4.out; have y5 := z5.out; have y6 := z6.out; have y7 := z7.out; have y8 := z8.out; have y9 := z9.out; have y10 := z10.out; have y11 := z11.out; have y12 := z12.out; have l0 := lowq.out q hq; omega)
  replace Bb00 := cell_grown (B := AG) Bb00 hgr12 (fun q hq => by have y1 := z1.out; have y2 := z2.out; have y3 := z3.out; have y4 := z4.out; have y5 := z5.out; have y6 := z6.out; have y7 := z7.out; have y8 := z8.out; have y9 := z9.out; have y10 := z10.out; have y11 := z11.out; have y12 := z12.out; have l0 := lowq.out q hq; have l1 := ltb00.out; simp only; omega)
  replace Bb01 := cell_grown (B := AG) Bb01 hgr12 (fun q hq => by have y1 := z1.out; have y2 := z2.out; have y3 := z3.out; have y4 := z4.out; have y5 := z5.out; have y6 := z6.out; have y7 := z7.out; have y8 := z8.out; have y9 := z9.out; have y10 := z10.out; have y11 := z11.out; have y12 := z12.out; have l0 := lowq.out q hq; have l1 := ltb00.out; simp only; omega)
  replace Bb02 := cell_grown (B := AG) Bb02 hgr12 (fun q hq => by have y1 := z1.out; have y2 := z2.out; have y3 := z3.out; have y4 := z4.out; have y5 := z5.out; have y6 := z6.out; have y7 := z7.out; have y8 := z8.out; have y9 := z9.out; have y10 := z10.out; have y11 := z11.out; have y12 := z12.out; have l0 := lowq.out q hq; have l1 := ltb00.out; simp only; omega)
  replace Bb03 := cell_grown (B := AG) Bb03 hgr12 (fun q hq => by have y1 := z1.out; have y2 := z2.out; have y3 := z3.out; have y4 := z4.out; have y5 := z5.out; have y6 := z6.out; have y7 := z7.out; have y8 := z8.out; have y9 := z9.out; have y10 := z10.out; have y11 := z11.out; have y12 := z12.out; have l0 := lowq.out q hq; have l1 := ltb00.out; simp only; omega)
  replace Bb04 := cell_grown (B := AG) Bb04 hgr12 (fun q hq => by have y1 := z1.out; have y2 := z2.out; have y3 := z3.out; have y4 := z4.out; have y5 := z5.out; have y6 := z6.out; have y7 := z7.out; have y8 := z8.out; have y9 := z9.out; have y10 := z10.out; have y11 := z11.out; have y12 := z12.out; have l0 := lowq.out q hq; have l1 := ltb00.out; simp only; omega)
  have hB12 := Lib.hid (below_grown (A := AG) hB11.out (hB11.out.size) hgr12 (fun q hq => by have y1 := z1.out; have y2 := z2.out; have y3 := z3.out; have y4 := z4.out; have y5 := z5.out; have y6 := z6.out; have y7 := z7.out; have y8 := z8.out; have y9 := z9.out; have y10 := z10.out; have y11 := z11.out; have l0 := lowq.out q hq; omega))
  clear hB11 hgr12 lowq
  have ltb012 := World.block_lt_of_cell? _ _ Bb00
  simp only at ltb012
  clear G
  replace M := M.srow
  have hqq : decide (1 + (nG : Int) < 0) = false := decide_eq_false (by omega)
  go_wp2_with fail
  refine (heldIntS_any _ nG cG 1 _ M hnG (by omega) (by omega)).mono ?_
  rintro e w13 ⟨rfl, hb13⟩
  replace Bb00 := cell_step Bb00 hb13
  replace Bb01 := cell_step Bb01 hb13
  replace Bb02 := cell_step Bb02 hb13
  replace Bb03 := cell_step Bb03 hb13
  replace Bb04 := cell_step Bb04 hb13
  have ltb013 := World.block_lt_of_cell? _ _ Bb00
  simp only at ltb013
  replace P1 := P1.below hb13
  replace W := W.below hb13
  replace M := M.below hb13
  have hB13 := Lib.hid (hB12.out.step hb13)
  clear hB12
  have z13 := Lib.hid hb13.size
  clear hb13
  go_wp2_with fail
  refine (toBasket_any x0 _).mono ?_
  rintro e w14 ⟨rfl, hb14⟩
  replace Bb00 := cell_step Bb00 hb14
  replace Bb01 := cell_step Bb01 hb14
  replace Bb02 := cell_step Bb02 hb14
  replace Bb03 := cell_step Bb03 hb14
  replace Bb04 := cell_step Bb04 hb14
  have ltb014 := World.block_lt_of_cell? _ _ Bb00
  simp only at ltb014
  replace P1 := P1.below hb14
  replace W := W.below hb14
  replace M := M.below hb14
  have hB14 := Lib.hid (hB13.out.step hb14)
  clear hB13
  have z14 := Lib.hid hb14.size
  clear hb14
  go_wp2_with fail
  refine (toIntS_own A1 n1 c1 xs1 _ P1 hn1).mono ?_
  rintro e w15 ⟨gY1, rfl, Y1, hb15⟩
  replace Bb00 := cell_step Bb00 hb15
  replace Bb01 := cell_step Bb01 hb15
  replace Bb02 := cell_step Bb02 hb15
  replace Bb03 := cell_step Bb03 hb15
  replace Bb04 := cell_step Bb04 hb15
  have ltb015 := World.block_lt_of_cell? _ _ Bb00
  simp only at ltb015
  replace P1 := P1.below hb15
  replace W := W.below hb15
  replace M := M.below hb15
  have hB15 := Lib.hid (hB14.out.step hb15)
  clear hB14
  have z15 := Lib.hid hb15.size
  clear hb15
  replace Y1 := Y1.srow
  go_wp2_with fail
  refine (mir_impl x0 _ n1 n1 xs1 _ h0.out Y1 hn1 hg1.out).mono ?_
  rintro e w16 ⟨AH, nH, cH, rfl, hnH, H, hb16⟩
  replace Bb00 := cell_step Bb00 hb16
  replace Bb01 := cell_step Bb01 hb16
  replace Bb02 := cell_step Bb02 hb16
  replace Bb03 := cell_step Bb03 hb16
  replace Bb04 := cell_step Bb04 hb16
  have ltb016 := World.block_lt_of_cell? _ _ Bb00
  simp only at ltb016
  replace P1 := P1.below hb16
  replace W := W.below hb16
  replace M := M.below hb16
  replace Y1 := Y1.below hb16
  have hB16 := Lib.hid (hB15.out.step hb16)
  clear hB15
  have z16 := Lib.hid hb16.size
  clear hb16
  replace H := H.srow
  clear Y1
  go_wp2_with fail
  refine (eqIntS_any _ _ nH nW cH cW _ _ _ H W rfl hnH).mono ?_
  rintro e w17 ⟨rfl, hb17⟩
  replace Bb00 := cell_step Bb00 hb17
  replace Bb01 := cell_step Bb01 hb17
  replace Bb02 := cell_step Bb02 hb17
  replace Bb03 := cell_step Bb03 hb17
  replace Bb04 := cell_step Bb04 hb17
  have ltb017 := World.block_lt_of_cell? _ _ Bb00
  simp only at ltb017
  replace P1 := P1.below hb17
  replace W := W.below hb17
  replace M := M.below hb17
  replace H := H.below hb17
  have hB17 := Lib.hid (hB16.out.step hb17)
  clear hB16
  have z17 := Lib.hid hb17.size
  clear hb17
  go_wp2_with fail
  refine (heldIntS_any _ nG cG 1 _ M hnG (by omega) (by omega)).mono ?_
  rintro e w18 ⟨rfl, hb18⟩
  replace Bb00 := cell_step Bb00 hb18
  replace Bb01 := cell_step Bb01 hb18
  replace Bb02 := cell_step Bb02 hb18
  replace Bb03 := cell_step Bb03 hb18
  replace Bb04 := cell_step Bb04 hb18
  have ltb018 := World.block_lt_of_cell? _ _ Bb00
  simp only at ltb018
  replace P1 := P1.below hb18
  replace W := W.below hb18
  replace M := M.below hb18
  replace H := H.below hb18
  have hB18 := Lib.hid (hB17.out.step hb18)
  clear hB17
  have z18 := Lib.hid hb18.size
  clear hb18
  have hw := Lib.hid (hB18.out)
  clear hB18
  go_wp2
  go_ret
  exact ⟨rfl, hw.out⟩
end Go.Proofs.Ythgeoilkjloblaa
