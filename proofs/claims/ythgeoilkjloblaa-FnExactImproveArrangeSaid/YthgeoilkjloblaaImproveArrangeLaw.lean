/- The law FnExactImproveArrange as one call: for every input it returns true. -/
import Derived.Test.YthgeoilkjloblaaImp
import Derived.Test.YthgeoilkjloblaaIssO
import Derived.Test.YthgeoilkjloblaaArrC
namespace Go.Proofs.Ythgeoilkjloblaa
open Go.RowKit
set_option linter.unusedVariables false
set_option linter.unusedSimpArgs false

set_option maxRecDepth 100000 in
set_option maxHeartbeats 4000000 in
theorem fnExactImproveArrange_any (x0 : BasketD) (A1 : Option Addr) (n1 c1 : Nat) (xs1 : List (List Int)) (A2 : Option Addr) (n2 c2 : Nat) (xs2 : List Int) (w : World) (h0 : x0.good) (h1 : n1 ≤ maxLen ∧ IntSS w A1 n1 xs1 ∧ ∀ x ∈ xs1, issGood x) (h2 : n2 ≤ maxLen ∧ Ints w A2 n2 xs2 ∧ ∀ x ∈ xs2, intGood x) :
    Calls Try.prog 10 #[.agg #[.int .i64 x0.bars, .int .i64 x0.rise, .int .i64 x0.fall, .int .i64 x0.clear, .int .i64 x0.near], .slice A1 n1 c1, .slice A2 n2 c2] w fun e w' => e = .returned (.bool true) ∧ Below w.heap.size w w' := by
  obtain ⟨hm1, P1, hg1⟩ := h1
  have hm1' := hm1
  unfold maxLen at hm1'
  replace hg1 := Lib.hid hg1
  obtain ⟨hm2, P2, hg2⟩ := h2
  have hm2' := hm2
  unfold maxLen at hm2'
  replace hg2 := Lib.hid hg2
  replace h0 := Lib.hid h0
  by_cases hbig2 : (1048576 : Int) < (n2 : Int)
  · go_enter Try.func10, Try.ntmps10
    go_wp2
    go_ret
    exact ⟨rfl, below_a1 _ _⟩
  have hn2 : n2 ≤ 1048576 := by omega
  have hgb2 : decide ((1048576 : Int) < (n2 : Int)) = false := decide_eq_false hbig2
  have PP1 := Lib.hid P1
  have PP2 := Lib.hid P2
  go_enter Try.func10, Try.ntmps10
  go_wp2_with fail
  refine (szIssB_any A1 n1 c1 1048576 xs1 _ (P1.below (below_a1 _ _)) (by omega) (by omega) hm1).mono ?_
  rintro e w1 ⟨l1, rfl, hla1, hlb1, hlc1, hb1⟩
  have Bb00 : w1.cell? ⟨w.heap.size, 0, none⟩ = some (.int .i64 x0.bars) := cell_step (cell_new (by simp) rfl) hb1
  have Bb01 : w1.cell? ⟨w.heap.size, 1, none⟩ = some (.int .i64 x0.rise) := cell_step (cell_new (by simp) rfl) hb1
  have Bb02 : w1.cell? ⟨w.heap.size, 2, none⟩ = some (.int .i64 x0.fall) := cell_step (cell_new (by simp) rfl) hb1
  have Bb03 : w1.cell? ⟨w.heap.size, 3, none⟩ = some (.int .i64 x0.clear) := cell_step (cell_new (by simp) rfl) hb1
  have Bb04 : w1.cell? ⟨w.heap.size, 4, none⟩ = some (.int .i64 x0.near) := cell_step (cell_new (by simp) rfl) hb1
  have hb1' := (below_a1 _ _).step hb1
  clear hb1
  have hb1 := hb1'
  clear hb1'
  have ltb00 := Lib.hid (World.block_lt_of_cell? _ _ Bb00)
  have ltb01 := World.block_lt_of_cell? _ _ Bb00
  simp only at ltb01
  replace P1 := P1.below hb1
  replace P2 := P2.below hb1
  have hB1 := Lib.hid (hb1)
  have z1 := Lib.hid hb1.size
  clear hb1
  by_cases hbs1 : l1 < 0
  · go_wp2
    go_ret
    exact ⟨rfl, hB1.out⟩
  have hlen1 := hlc1 (by omega)
  have hn1 : n1 ≤ 1048576 := by omega
  have ht1 : tot xs1 ≤ 1048576 := by omega
  clear hlc1
  go_wp2_with fail
  refine (toBasket_any x0 _).mono ?_
  rintro e w2 ⟨rfl, hb2⟩
  replace Bb00 := cell_step Bb00 hb2
  replace Bb01 := cell_step Bb01 hb2
  replace Bb02 := cell_step Bb02 hb2
  replace Bb03 := cell_step Bb03 hb2
  replace Bb04 := cell_step Bb04 hb2
  have ltb02 := World.block_lt_of_cell? _ _ Bb00
  simp only at ltb02
  replace P1 := P1.below hb2
  replace P2 := P2.below hb2
  have hB2 := Lib.hid (hB1.out.step hb2)
  clear hB1
  have z2 := Lib.hid hb2.size
  clear hb2
  go_wp2_with fail
  refine (toIss_own A1 n1 c1 xs1 _ P1 hn1 ht1).mono ?_
  rintro e w3 ⟨gS1, rfl, S1, hb3⟩
  replace Bb00 := cell_step Bb00 hb3
  replace Bb01 := cell_step Bb01 hb3
  replace Bb02 := cell_step Bb02 hb3
  replace Bb03 := cell_step Bb03 hb3
  replace Bb04 := cell_step Bb04 hb3
  have ltb03 := World.block_lt_of_cell? _ _ Bb00
  simp only at ltb03
  replace P1 := P1.below hb3
  replace P2 := P2.below hb3
  have hB3 := Lib.hid (hB2.out.step hb3)
  clear hB2
  have z3 := Lib.hid hb3.size
  clear hb3
  replace S1 := S1.srow
  go_wp2_with fail
  refine (toIntS_own A2 n2 c2 xs2 _ P2 hn2).mono ?_
  rintro e w4 ⟨gS2, rfl, S2, hb4⟩
  replace Bb00 := cell_step Bb00 hb4
  replace Bb01 := cell_step Bb01 hb4
  replace Bb02 := cell_step Bb02 hb4
  replace Bb03 := cell_step Bb03 hb4
  replace Bb04 := cell_step Bb04 hb4
  have ltb04 := World.block_lt_of_cell? _ _ Bb00
  simp only at ltb04
  replace P1 := P1.below hb4
  replace P2 := P2.below hb4
  replace S1 := S1.below hb4
  have hB4 := Lib.hid (hB3.out.step hb4)
  clear hB3
  have z4 := Lib.hid hb4.size
  clear hb4
  replace S2 := S2.srow
  go_wp2_with fail
  refine (im_spec x0 _ n1 n1 xs1 _ n2 n2 xs2 _ h0.out S1 hn1 hg1.out S2 hn2 hg2.out).mono ?_
  rintro e w5 ⟨AW, nW, cW, rfl, hnW, W, hb5⟩
  replace Bb00 := cell_step Bb00 hb5
  replace Bb01 := cell_step Bb01 hb5
  replace Bb02 := cell_step Bb02 hb5
  replace Bb03 := cell_step Bb03 hb5
  replace Bb04 := cell_step Bb04 hb5
  have ltb05 := World.block_lt_of_cell? _ _ Bb00
  simp only at ltb05
  replace P1 := P1.below hb5
  replace P2 := P2.below hb5
  replace S1 := S1.below hb5
  replace S2 := S2.below hb5
  have hB5 := Lib.hid (hB4.out.step hb5)
  clear hB4
  have z5 := Lib.hid hb5.size
  clear hb5
  replace W := W.srow
  have WW := Lib.hid W
  clear S1
  clear S2
  go_wp2_with fail
  refine (toIss_own A1 n1 c1 xs1 _ P1 hn1 ht1).mono ?_
  rintro e w6 ⟨gX1, rfl, X1, hb6⟩
  replace Bb00 := cell_step Bb00 hb6
  replace Bb01 := cell_step Bb01 hb6
  replace Bb02 := cell_step Bb02 hb6
  replace Bb03 := cell_step Bb03 hb6
  replace Bb04 := cell_step Bb04 hb6
  have ltb06 := World.block_lt_of_cell? _ _ Bb00
  simp only at ltb06
  replace P1 := P1.below hb6
  replace P2 := P2.below hb6
  replace W := W.below hb6
  have hB6 := Lib.hid (hB5.out.step hb6)
  clear hB5
  have z6 := Lib.hid hb6.size
  clear hb6
  have zX1 := Lib.hid (Nat.le_refl w6.heap.size)
  go_wp2_with fail
  refine (toIntS_own A2 n2 c2 xs2 _ P2 hn2).mono ?_
  rintro e w7 ⟨gX2, rfl, X2, hb7⟩
  replace Bb00 := cell_step Bb00 hb7
  replace Bb01 := cell_step Bb01 hb7
  replace Bb02 := cell_step Bb02 hb7
  replace Bb03 := cell_step Bb03 hb7
  replace Bb04 := cell_step Bb04 hb7
  have ltb07 := World.block_lt_of_cell? _ _ Bb00
  simp only at ltb07
  replace P1 := P1.below hb7
  replace P2 := P2.below hb7
  replace W := W.below hb7
  replace X1 := X1.below hb7
  have hB7 := Lib.hid (hB6.out.step hb7)
  clear hB6
  have z7 := Lib.hid hb7.size
  clear hb7
  have ltX2 := Lib.hid (X2.lt)
  have owX2 := Lib.hid (X2.own)
  go_wp2_with fail
  refine (toBasket_any x0 _).mono ?_
  rintro e w8 ⟨rfl, hb8⟩
  replace Bb00 := cell_step Bb00 hb8
  replace Bb01 := cell_step Bb01 hb8
  replace Bb02 := cell_step Bb02 hb8
  replace Bb03 := cell_step Bb03 hb8
  replace Bb04 := cell_step Bb04 hb8
  have ltb08 := World.block_lt_of_cell? _ _ Bb00
  simp only at ltb08
  replace P1 := P1.below hb8
  replace P2 := P2.below hb8
  replace W := W.below hb8
  replace X1 := X1.below hb8
  replace X2 := X2.below hb8
  have hB8 := Lib.hid (hB7.out.step hb8)
  clear hB7
  have z8 := Lib.hid hb8.size
  clear hb8
  go_wp2_with fail
  refine (im_impl x0 _ n1 n1 xs1 _ n2 n2 xs2 _ h0.out X1.srow hn1 hg1.out X2.srow hn2 hg2.out).mono ?_
  rintro e w9 ⟨AG, nG, cG, rfl, hnG, G, hb9⟩
  replace Bb00 := cell_step Bb00 hb9
  replace Bb01 := cell_step Bb01 hb9
  replace Bb02 := cell_step Bb02 hb9
  replace Bb03 := cell_step Bb03 hb9
  replace Bb04 := cell_step Bb04 hb9
  have ltb09 := World.block_lt_of_cell? _ _ Bb00
  simp only at ltb09
  replace P1 := P1.below hb9
  replace P2 := P2.below hb9
  replace W := W.below hb9
  replace X1 := X1.below hb9
  replace X2 := X2.below hb9
  have hB9 := Lib.hid (hB8.out.step hb9)
  clear hB8
  have z9 := Lib.hid hb9.size
  clear hb9
  go_wp2_with fail
  refine (eqIntS_any _ _ nG nW cG cW _ _ _ G.srow W rfl hnG).mono ?_
  rintro e w10 ⟨rfl, hb10⟩
  replace Bb00 := cell_step Bb00 hb10
  replace Bb01 := cell_step Bb01 hb10
  replace Bb02 := cell_step Bb02 hb10
  replace Bb03 := cell_step Bb03 hb10
  replace Bb04 := cell_step Bb04 hb10
  have ltb010 := World.block_lt_of_cell? _ _ Bb00
  simp only at ltb010
  replace P1 := P1.below hb10
  replace P2 := P2.below hb10
  replace W := W.below hb10
  replace X1 := X1.below hb10
  replace X2 := X2.below hb10
  replace G := G.below hb10
  have hB10 := Lib.hid (hB9.out.step hb10)
  clear hB9
  have z10 := Lib.hid hb10.size
  clear hb10
  go_wp2_with fail
  refine (toIss_own A1 n1 c1 xs1 _ P1 hn1 ht1).mono ?_
  rintro e w11 ⟨gZ1, rfl, Z1, hb11⟩
  replace Bb00 := cell_step Bb00 hb11
  replace Bb01 := cell_step Bb01 hb11
  replace Bb02 := cell_step Bb02 hb11
  replace Bb03 := cell_step Bb03 hb11
  replace Bb04 := cell_step Bb04 hb11
  have ltb011 := World.block_lt_of_cell? _ _ Bb00
  simp only at ltb011
  replace P1 := P1.below hb11
  replace P2 := P2.below hb11
  replace W := W.below hb11
  replace X1 := X1.below hb11
  replace X2 := X2.below hb11
  replace G := G.below hb11
  have hB11 := Lib.hid (hB10.out.step hb11)
  clear hB10
  have z11 := Lib.hid hb11.size
  clear hb11
  replace Z1 := Z1.srow
  go_wp2_with fail
  refine (eqIss_any _ _ n1 n1 n1 n1 xs1 xs1 _ X1.srow Z1 rfl hn1 ht1).mono ?_
  rintro e w12 ⟨rfl, hb12⟩
  replace Bb00 := cell_step Bb00 hb12
  replace Bb01 := cell_step Bb01 hb12
  replace Bb02 := cell_step Bb02 hb12
  replace Bb03 := cell_step Bb03 hb12
  replace Bb04 := cell_step Bb04 hb12
  have ltb012 := World.block_lt_of_cell? _ _ Bb00
  simp only at ltb012
  replace P1 := P1.below hb12
  replace P2 := P2.below hb12
  replace W := W.below hb12
  replace X1 := X1.below hb12
  replace X2 := X2.below hb12
  replace G := G.below hb12
  replace Z1 := Z1.below hb12
  have hB12 := Lib.hid (hB11.out.step hb12)
  clear hB11
  have z12 := Lib.hid hb12.size
  clear hb12
  clear Z1
  go_wp2_with fail
  refine (toIntS_own A2 n2 c2 xs2 _ P2 hn2).mono ?_
  rintro e w13 ⟨gZ2, rfl, Z2, hb13⟩
  replace Bb00 := cell_step Bb00 hb13
  replace Bb01 := cell_step Bb01 hb13
  replace Bb02 := cell_step Bb02 hb13
  replace Bb03 := cell_step Bb03 hb13
  replace Bb04 := cell_step Bb04 hb13
  have ltb013 := World.block_lt_of_cell? _ _ Bb00
  simp only at ltb013
  replace P1 := P1.below hb13
  replace P2 := P2.below hb13
  replace W := W.below hb13
  replace X1 := X1.below hb13
  replace X2 := X2.below hb13
  replace G := G.below hb13
  have hB13 := Lib.hid (hB12.out.step hb13)
  clear hB12
  have z13 := Lib.hid hb13.size
  clear hb13
  replace Z2 := Z2.srow
  go_wp2_with fail
  refine (eqIntS_any _ _ n2 n2 n2 n2 xs2 xs2 _ X2.srow Z2 rfl hn2).mono ?_
  rintro e w14 ⟨rfl, hb14⟩
  replace Bb00 := cell_step Bb00 hb14
  replace Bb01 := cell_step Bb01 hb14
  replace Bb02 := cell_step Bb02 hb14
  replace Bb03 := cell_step Bb03 hb14
  replace Bb04 := cell_step Bb04 hb14
  have ltb014 := World.block_lt_of_cell? _ _ Bb00
  simp only at ltb014
  replace P1 := P1.below hb14
  replace P2 := P2.below hb14
  replace W := W.below hb14
  replace X1 := X1.below hb14
  replace X2 := X2.below hb14
  replace G := G.below hb14
  replace Z2 := Z2.below hb14
  have hB14 := Lib.hid (hB13.out.step hb14)
  clear hB13
  have z14 := Lib.hid hb14.size
  clear hb14
  clear Z2
  go_wp2_with fail
  refine (markIss_any _ n1 n1 (1) xs1 _ _ _ X1 hn1 ht1 (by omega) (by omega)).mono ?_
  rintro e w15 ⟨rfl, hX1, hon⟩
  have z15 := Lib.hid hon.size
  replace P2 := SRow.only_old P2 PP2.out hon (by have y1 := z1.out; have y2 := z2.out; have y3 := z3.out; have y4 := z4.out; have y5 := z5.out; have y6 := z6.out; have y7 := z7.out; have y8 := z8.out; have y9 := z9.out; have y10 := z10.out; have y11 := z11.out; have y12 := z12.out; have y13 := z13.out; have y14 := z14.out; have y15 := z15.out; omega)
  replace W := SRow.only_old W WW.out hon (by have y1 := z1.out; have y2 := z2.out; have y3 := z3.out; have y4 := z4.out; have y5 := z5.out; have y6 := z6.out; have y7 := z7.out; have y8 := z8.out; have y9 := z9.out; have y10 := z10.out; have y11 := z11.out; have y12 := z12.out; have y13 := z13.out; have y14 := z14.out; have y15 := z15.out; omega)
  replace X2 := ORow.only X2 hon (fun q hq => Or.inr (by have y1 := z1.out; have y2 := z2.out; have y3 := z3.out; have y4 := z4.out; have y5 := z5.out; have y6 := z6.out; have y7 := z7.out; have y8 := z8.out; have y9 := z9.out; have y10 := z10.out; have y11 := z11.out; have y12 := z12.out; have y13 := z13.out; have y14 := z14.out; have y15 := z15.out; have l0 := X2.own q hq; omega))
  replace G := ORow.only G hon (fun q hq => Or.inr (by have y1 := z1.out; have y2 := z2.out; have y3 := z3.out; have y4 := z4.out; have y5 := z5.out; have y6 := z6.out; have y7 := z7.out; have y8 := z8.out; have y9 := z9.out; have y10 := z10.out; have y11 := z11.out; have y12 := z12.out; have y13 := z13.out; have y14 := z14.out; have y15 := z15.out; have l0 := G.own q hq; omega))
  replace Bb00 := cell_only Bb00 hon (Or.inl (by have y1 := z1.out; have y2 := z2.out; have y3 := z3.out; have y4 := z4.out; have y5 := z5.out; have y6 := z6.out; have y7 := z7.out; have y8 := z8.out; have y9 := z9.out; have y10 := z10.out; have y11 := z11.out; have y12 := z12.out; have y13 := z13.out; have y14 := z14.out; have y15 := z15.out; have l1 := ltb00.out; simp only; omega))
  replace Bb01 := cell_only Bb01 hon (Or.inl (by have y1 := z1.out; have y2 := z2.out; have y3 := z3.out; have y4 := z4.out; have y5 := z5.out; have y6 := z6.out; have y7 := z7.out; have y8 := z8.out; have y9 := z9.out; have y10 := z10.out; have y11 := z11.out; have y12 := z12.out; have y13 := z13.out; have y14 := z14.out; have y15 := z15.out; have l1 := ltb00.out; simp only; omega))
  replace Bb02 := cell_only Bb02 hon (Or.inl (by have y1 := z1.out; have y2 := z2.out; have y3 := z3.out; have y4 := z4.out; have y5 := z5.out; have y6 := z6.out; have y7 := z7.out; have y8 := z8.out; have y9 := z9.out; have y10 := z10.out; have y11 := z11.out; have y12 := z12.out; have y13 := z13.out; have y14 := z14.out; have y15 := z15.out; have l1 := ltb00.out; simp only; omega))
  replace Bb03 := cell_only Bb03 hon (Or.inl (by have y1 := z1.out; have y2 := z2.out; have y3 := z3.out; have y4 := z4.out; have y5 := z5.out; have y6 := z6.out; have y7 := z7.out; have y8 := z8.out; have y9 := z9.out; have y10 := z10.out; have y11 := z11.out; have y12 := z12.out; have y13 := z13.out; have y14 := z14.out; have y15 := z15.out; have l1 := ltb00.out; simp only; omega))
  replace Bb04 := cell_only Bb04 hon (Or.inl (by have y1 := z1.out; have y2 := z2.out; have y3 := z3.out; have y4 := z4.out; have y5 := z5.out; have y6 := z6.out; have y7 := z7.out; have y8 := z8.out; have y9 := z9.out; have y10 := z10.out; have y11 := z11.out; have y12 := z12.out; have y13 := z13.out; have y14 := z14.out; have y15 := z15.out; have l1 := ltb00.out; simp only; omega))
  have hB15 := Lib.hid (hon.below hB14.out (by have y1 := z1.out; have y2 := z2.out; have y3 := z3.out; have y4 := z4.out; have y5 := z5.out; have y6 := z6.out; have y7 := z7.out; have y8 := z8.out; have y9 := z9.out; have y10 := z10.out; have y11 := z11.out; have y12 := z12.out; have y13 := z13.out; have y14 := z14.out; have y15 := z15.out; omega))
  clear hB14 hon hX1 X1
  replace P1 := PP1.out.below hB15.out
  have ltb015 := World.block_lt_of_cell? _ _ Bb00
  simp only at ltb015
  go_wp2_with fail
  refine (markIntS_any _ n2 n2 (1 + (tot xs1 : Int)) xs2 _ _ X2 hn2 (by omega) (by omega)).mono ?_
  rintro e w16 ⟨rfl, hX2, hgr16⟩
  have z16 := Lib.hid hgr16.size
  have lowq := Lib.hid (owX2.out)
  replace P2 := SRow.above (B := some ⟨gX2, 0, none⟩) P2 PP2.out hgr16 (fun q hq => by have y1 := z1.out; have y2 := z2.out; have y3 := z3.out; have y4 := z4.out; have y5 := z5.out; have y6 := z6.out; have y7 := z7.out; have y8 := z8.out; have y9 := z9.out; have y10 := z10.out; have y11 := z11.out; have y12 := z12.out; have y13 := z13.out; have y14 := z14.out; have y15 := z15.out; have y16 := z16.out; have l0 := lowq.out q hq; omega)
  replace W := SRow.above (B := some ⟨gX2, 0, none⟩) W WW.out hgr16 (fun q hq => by have y1 := z1.out; have y2 := z2.out; have y3 := z3.out; have y4 := z4.out; have y5 := z5.out; have y6 := z6.out; have y7 := z7.out; have y8 := z8.out; have y9 := z9.out; have y10 := z10.out; have y11 := z11.out; have y12 := z12.out; have y13 := z13.out; have y14 := z14.out; have y15 := z15.out; have y16 := z16.out; have l0 := lowq.out q hq; omega)
  replace G := ORow.kept (B := some ⟨gX2, 0, none⟩) G hgr16 (fun q hq => by have y1 := z1.out; have y2 := z2.out; have y3 := z3.out; have y4 := z4.out; have y5 := z5.out; have y6 := z6.out; have y7 := z7.out; have y8 := z8.out; have y9 := z9.out; have y10 := z10.out; have y11 := z11.out; have y12 := z12.out; have y13 := z13.out; have y14 := z14.out; have y15 := z15.out; have y16 := z16.out; have l0 := ltX2.out q hq; omega)
  replace Bb00 := cell_grown (B := some ⟨gX2, 0, none⟩) Bb00 hgr16 (fun q hq => by have y1 := z1.out; have y2 := z2.out; have y3 := z3.out; have y4 := z4.out; have y5 := z5.out; have y6 := z6.out; have y7 := z7.out; have y8 := z8.out; have y9 := z9.out; have y10 := z10.out; have y11 := z11.out; have y12 := z12.out; have y13 := z13.out; have y14 := z14.out; have y15 := z15.out; have y16 := z16.out; have l0 := lowq.out q hq; have l1 := ltb00.out; simp only; omega)
  replace Bb01 := cell_grown (B := some ⟨gX2, 0, none⟩) Bb01 hgr16 (fun q hq => by have y1 := z1.out; have y2 := z2.out; have y3 := z3.out; have y4 := z4.out; have y5 := z5.out; have y6 := z6.out; have y7 := z7.out; have y8 := z8.out; have y9 := z9.out; have y10 := z10.out; have y11 := z11.out; have y12 := z12.out; have y13 := z13.out; have y14 := z14.out; have y15 := z15.out; have y16 := z16.out; have l0 := lowq.out q hq; have l1 := ltb00.out; simp only; omega)
  replace Bb02 := cell_grown (B := some ⟨gX2, 0, none⟩) Bb02 hgr16 (fun q hq => by have y1 := z1.out; have y2 := z2.out; have y3 := z3.out; have y4 := z4.out; have y5 := z5.out; have y6 := z6.out; have y7 := z7.out; have y8 := z8.out; have y9 := z9.out; have y10 := z10.out; have y11 := z11.out; have y12 := z12.out; have y13 := z13.out; have y14 := z14.out; have y15 := z15.out; have y16 := z16.out; have l0 := lowq.out q hq; have l1 := ltb00.out; simp only; omega)
  replace Bb03 := cell_grown (B := some ⟨gX2, 0, none⟩) Bb03 hgr16 (fun q hq => by have y1 := z1.out; have y2 := z2.out; have y3 := z3.out; have y4 := z4.out; have y5 := z5.out; have y6 := z6.out; have y7 := z7.out; have y8 := z8.out; have y9 := z9.out; have y10 := z10.out; have y11 := z11.out; have y12 := z12.out; have y13 := z13.out; have y14 := z14.out; have y15 := z15.out; have y16 := z16.out; have l0 := lowq.out q hq; have l1 := ltb00.out; simp only; omega)
  replace Bb04 := cell_grown (B := some ⟨gX2, 0, none⟩) Bb04 hgr16 (fun q hq => by have y1 := z1.out; have y2 := z2.out; have y3 := z3.out; have y4 := z4.out; have y5 := z5.out; have y6 := z6.out; have y7 := z7.out; have y8 := z8.out; have y9 := z9.out; have y10 := z10.out; have y11 := z11.out; have y12 := z12.out; have y13 := z13.out; have y14 := z14.out; have y15 := z15.out; have y16 := z16.out; have l0 := lowq.out q hq; have l1 := ltb00.out; simp only; omega)
  have hB16 := Lib.hid (below_grown (A := some ⟨gX2, 0, none⟩) hB15.out (hB15.out.size) hgr16 (fun q hq => by have y1 := z1.out; have y2 := z2.out; have y3 := z3.out; have y4 := z4.out; have y5 := z5.out; have y6 := z6.out; have y7 := z7.out; have y8 := z8.out; have y9 := z9.out; have y10 := z10.out; have y11 := z11.out; have y12 := z12.out; have y13 := z13.out; have y14 := z14.out; have y15 := z15.out; have l0 := lowq.out q hq; omega))
  clear hB15 hgr16 lowq
  replace P1 := PP1.out.below hB16.out
  have ltb016 := World.block_lt_of_cell? _ _ Bb00
  simp only at ltb016
  clear hX2 X2
  have hkk : decide (1 + (tot xs1 : Int) + (n2 : Int) < 0) = false := decide_eq_false (by omega)
  go_wp2_with fail
  refine (eqIntS_any _ _ nG nW cG cW _ _ _ G.srow W rfl hnG).mono ?_
  rintro e w17 ⟨rfl, hb17⟩
  replace Bb00 := cell_step Bb00 hb17
  replace Bb01 := cell_step Bb01 hb17
  replace Bb02 := cell_step Bb02 hb17
  replace Bb03 := cell_step Bb03 hb17
  replace Bb04 := cell_step Bb04 hb17
  have ltb017 := World.block_lt_of_cell? _ _ Bb00
  simp only at ltb017
  replace P1 := P1.below hb17
  replace P2 := P2.below hb17
  replace W := W.below hb17
  replace G := G.below hb17
  have hB17 := Lib.hid (hB16.out.step hb17)
  clear hB16
  have z17 := Lib.hid hb17.size
  clear hb17
  have owG := Lib.hid G.own
  go_wp2_with fail
  refine (markIntS_any _ nG cG 1 _ _ _ G hnG (by omega) (by omega)).mono ?_
  rintro e w18 ⟨rfl, M, hgr18⟩
  have z18 := Lib.hid hgr18.size
  have lowq := Lib.hid (owG.out)
  replace P2 := SRow.above (B := AG) P2 PP2.out hgr18 (fun q hq => by have y1 := z1.out; have y2 := z2.out; have y3 := z3.out; have y4 := z4.out; have y5 := z5.out; have y6 := z6.out; have y7 := z7.out; have y8 := z8.out; have y9 := z9.out; have y10 := z10.out; have y11 := z11.out; have y12 := z12.out; have y13 := z13.out; have y14 := z14.out; have y15 := z15.out; have y16 := z16.out; have y17 := z17.out; have y18 := z18.out; have l0 := lowq.out q hq; omega)
  replace W := SRow.above (B := AG) W WW.out hgr18 (fun q hq => by have y1 := z1.out; have y2 := z2.out; have y3 := z3.out; have y4 := z4.out; have y5 := z5.out; have y6 := z6.out; have y7 := z7.out; have y8 := z8.out; have y9 := z9.out; have y10 := z10.out; have y11 := z11.out; have y12 := z12.out; have y13 := z13.out; have y14 := z14.out; have y15 := z15.out; have y16 := z16.out; have y17 := z17.out; have y18 := z18.out; have l0 := lowq.out q hq; omega)
  replace Bb00 := cell_grown (B := AG) Bb00 hgr18 (fun q hq => by have y1 := z1.out; have y2 := z2.out; have y3 := z3.out; have y4 := z4.out; have y5 := z5.out; have y6 := z6.out; have y7 := z7.out; have y8 := z8.out; have y9 := z9.out; have y10 := z10.out; have y11 := z11.out; have y12 := z12.out; have y13 := z13.out; have y14 := z14.out; have y15 := z15.out; have y16 := z16.out; have y17 := z17.out; have y18 := z18.out; have l0 := lowq.out q hq; have l1 := ltb00.out; simp only; omega)
  replace Bb01 := cell_grown (B := AG) Bb01 hgr18 (fun q hq => by have y1 := z1.out; have y2 := z2.out; have y3 := z3.out; have y4 := z4.out; have y5 := z5.out; have y6 := z6.out; have y7 := z7.out; have y8 := z8.out; have y9 := z9.out; have y10 := z10.out; have y11 := z11.out; have y12 := z12.out; have y13 := z13.out; have y14 := z14.out; have y15 := z15.out; have y16 := z16.out; have y17 := z17.out; have y18 := z18.out; have l0 := lowq.out q hq; have l1 := ltb00.out; simp only; omega)
  replace Bb02 := cell_grown (B := AG) Bb02 hgr18 (fun q hq => by have y1 := z1.out; have y2 := z2.out; have y3 := z3.out; have y4 := z4.out; have y5 := z5.out; have y6 := z6.out; have y7 := z7.out; have y8 := z8.out; have y9 := z9.out; have y10 := z10.out; have y11 := z11.out; have y12 := z12.out; have y13 := z13.out; have y14 := z14.out; have y15 := z15.out; have y16 := z16.out; have y17 := z17.out; have y18 := z18.out; have l0 := lowq.out q hq; have l1 := ltb00.out; simp only; omega)
  replace Bb03 := cell_grown (B := AG) Bb03 hgr18 (fun q hq => by have y1 := z1.out; have y2 := z2.out; have y3 := z3.out; have y4 := z4.out; have y5 := z5.out; have y6 := z6.out; have y7 := z7.out; have y8 := z8.out; have y9 := z9.out; have y10 := z10.out; have y11 := z11.out; have y12 := z12.out; have y13 := z13.out; have y14 := z14.out; have y15 := z15.out; have y16 := z16.out; have y17 := z17.out; have y18 := z18.out; have l0 := lowq.out q hq; have l1 := ltb00.out; simp only; omega)
  replace Bb04 := cell_grown (B := AG) Bb04 hgr18 (fun q hq => by have y1 := z1.out; have y2 := z2.out; have y3 := z3.out; have y4 := z4.out; have y5 := z5.out; have y6 := z6.out; have y7 := z7.out; have y8 := z8.out; have y9 := z9.out; have y10 := z10.out; have y11 := z11.out; have y12 := z12.out; have y13 := z13.out; have y14 := z14.out; have y15 := z15.out; have y16 := z16.out; have y17 := z17.out; have y18 := z18.out; have l0 := lowq.out q hq; have l1 := ltb00.out; simp only; omega)
  have hB18 := Lib.hid (below_grown (A := AG) hB17.out (hB17.out.size) hgr18 (fun q hq => by have y1 := z1.out; have y2 := z2.out; have y3 := z3.out; have y4 := z4.out; have y5 := z5.out; have y6 := z6.out; have y7 := z7.out; have y8 := z8.out; have y9 := z9.out; have y10 := z10.out; have y11 := z11.out; have y12 := z12.out; have y13 := z13.out; have y14 := z14.out; have y15 := z15.out; have y16 := z16.out; have y17 := z17.out; have l0 := lowq.out q hq; omega))
  clear hB17 hgr18 lowq
  replace P1 := PP1.out.below hB18.out
  have ltb018 := World.block_lt_of_cell? _ _ Bb00
  simp only at ltb018
  clear G
  replace M := M.srow
  have hqq : decide (1 + (nG : Int) < 0) = false := decide_eq_false (by omega)
  go_wp2_with fail
  refine (heldIntS_any _ nG cG 1 _ M hnG (by omega) (by omega)).mono ?_
  rintro e w19 ⟨rfl, hb19⟩
  replace Bb00 := cell_step Bb00 hb19
  replace Bb01 := cell_step Bb01 hb19
  replace Bb02 := cell_step Bb02 hb19
  replace Bb03 := cell_step Bb03 hb19
  replace Bb04 := cell_step Bb04 hb19
  have ltb019 := World.block_lt_of_cell? _ _ Bb00
  simp only at ltb019
  replace P1 := P1.below hb19
  replace P2 := P2.below hb19
  replace W := W.below hb19
  replace M := M.below hb19
  have hB19 := Lib.hid (hB18.out.step hb19)
  clear hB18
  have z19 := Lib.hid hb19.size
  clear hb19
  go_wp2_with fail
  refine (toBasket_any x0 _).mono ?_
  rintro e w20 ⟨rfl, hb20⟩
  replace Bb00 := cell_step Bb00 hb20
  replace Bb01 := cell_step Bb01 hb20
  replace Bb02 := cell_step Bb02 hb20
  replace Bb03 := cell_step Bb03 hb20
  replace Bb04 := cell_step Bb04 hb20
  have ltb020 := World.block_lt_of_cell? _ _ Bb00
  simp only at ltb020
  replace P1 := P1.below hb20
  replace P2 := P2.below hb20
  replace W := W.below hb20
  replace M := M.below hb20
  have hB20 := Lib.hid (hB19.out.step hb20)
  clear hB19
  have z20 := Lib.hid hb20.size
  clear hb20
  go_wp2_with fail
  refine (toIss_own A1 n1 c1 xs1 _ P1 hn1 ht1).mono ?_
  rintro e w21 ⟨gY1, rfl, Y1, hb21⟩
  replace Bb00 := cell_step Bb00 hb21
  replace Bb01 := cell_step Bb01 hb21
  replace Bb02 := cell_step Bb02 hb21
  replace Bb03 := cell_step Bb03 hb21
  replace Bb04 := cell_step Bb04 hb21
  have ltb021 := World.block_lt_of_cell? _ _ Bb00
  simp only at ltb021
  replace P1 := P1.below hb21
  replace P2 := P2.below hb21
  replace W := W.below hb21
  replace M := M.below hb21
  have hB21 := Lib.hid (hB20.out.step hb21)
  clear hB20
  have z21 := Lib.hid hb21.size
  clear hb21
  replace Y1 := Y1.srow
  go_wp2_with fail
  refine (toIntS_own A2 n2 c2 xs2 _ P2 hn2).mono ?_
  rintro e w22 ⟨gY2, rfl, Y2, hb22⟩
  replace Bb00 := cell_step Bb00 hb22
  replace Bb01 := cell_step Bb01 hb22
  replace Bb02 := cell_step Bb02 hb22
  replace Bb03 := cell_step Bb03 hb22
  replace Bb04 := cell_step Bb04 hb22
  have ltb022 := World.block_lt_of_cell? _ _ Bb00
  simp only at ltb022
  replace P1 := P1.below hb22
  replace P2 := P2.below hb22
  replace W := W.below hb22
  replace M := M.below hb22
  replace Y1 := Y1.below hb22
  have hB22 := Lib.hid (hB21.out.step hb22)
  clear hB21
  have z22 := Lib.hid hb22.size
  clear hb22
  replace Y2 := Y2.srow
  go_wp2_with fail
  refine (im_impl x0 _ n1 n1 xs1 _ n2 n2 xs2 _ h0.out Y1 hn1 hg1.out Y2 hn2 hg2.out).mono ?_
  rintro e w23 ⟨AH, nH, cH, rfl, hnH, H, hb23⟩
  replace Bb00 := cell_step Bb00 hb23
  replace Bb01 := cell_step Bb01 hb23
  replace Bb02 := cell_step Bb02 hb23
  replace Bb03 := cell_step Bb03 hb23
  replace Bb04 := cell_step Bb04 hb23
  have ltb023 := World.block_lt_of_cell? _ _ Bb00
  simp only at ltb023
  replace P1 := P1.below hb23
  replace P2 := P2.below hb23
  replace W := W.below hb23
  replace M := M.below hb23
  replace Y1 := Y1.below hb23
  replace Y2 := Y2.below hb23
  have hB23 := Lib.hid (hB22.out.step hb23)
  clear hB22
  have z23 := Lib.hid hb23.size
  clear hb23
  replace H := H.srow
  clear Y1
  clear Y2
  go_wp2_with fail
  refine (eqIntS_any _ _ nH nW cH cW _ _ _ H W rfl hnH).mono ?_
  rintro e w24 ⟨rfl, hb24⟩
  replace Bb00 := cell_step Bb00 hb24
  replace Bb01 := cell_step Bb01 hb24
  replace Bb02 := cell_step Bb02 hb24
  replace Bb03 := cell_step Bb03 hb24
  replace Bb04 := cell_step Bb04 hb24
  have ltb024 := World.block_lt_of_cell? _ _ Bb00
  simp only at ltb024
  replace P1 := P1.below hb24
  replace P2 := P2.below hb24
  replace W := W.below hb24
  replace M := M.below hb24
  replace H := H.below hb24
  have hB24 := Lib.hid (hB23.out.step hb24)
  clear hB23
  have z24 := Lib.hid hb24.size
  clear hb24
  go_wp2_with fail
  refine (heldIntS_any _ nG cG 1 _ M hnG (by omega) (by omega)).mono ?_
  rintro e w25 ⟨rfl, hb25⟩
  replace Bb00 := cell_step Bb00 hb25
  replace Bb01 := cell_step Bb01 hb25
  replace Bb02 := cell_step Bb02 hb25
  replace Bb03 := cell_step Bb03 hb25
  replace Bb04 := cell_step Bb04 hb25
  have ltb025 := World.block_lt_of_cell? _ _ Bb00
  simp only at ltb025
  replace P1 := P1.below hb25
  replace P2 := P2.below hb25
  replace W := W.below hb25
  replace M := M.below hb25
  replace H := H.below hb25
  have hB25 := Lib.hid (hB24.out.step hb25)
  clear hB24
  have z25 := Lib.hid hb25.size
  clear hb25
  have hw := Lib.hid (hB25.out)
  clear hB25
  go_wp2
  go_ret
  exact ⟨rfl, hw.out⟩
end Go.Proofs.Ythgeoilkjloblaa
