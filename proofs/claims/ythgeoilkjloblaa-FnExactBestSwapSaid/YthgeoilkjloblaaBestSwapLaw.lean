/- The law FnExactBestSwap as one call: for every input it returns true. -/
import Derived.Test.YthgeoilkjloblaaBst2
import Derived.Test.YthgeoilkjloblaaIssO
import Derived.Test.YthgeoilkjloblaaArrC
namespace Go.Proofs.Ythgeoilkjloblaa
open Go.RowKit
set_option linter.unusedVariables false
set_option linter.unusedSimpArgs false

set_option maxRecDepth 100000 in
set_option maxHeartbeats 4000000 in
theorem fnExactBestSwap_any (x0 : BasketD) (A1 : Option Addr) (n1 c1 : Nat) (xs1 : List (List Int)) (A2 : Option Addr) (n2 c2 : Nat) (xs2 : List Int) (w : World) (h0 : x0.good) (h1 : n1 ≤ maxLen ∧ IntSS w A1 n1 xs1 ∧ ∀ x ∈ xs1, issGood x) (h2 : n2 ≤ maxLen ∧ Ints w A2 n2 xs2 ∧ ∀ x ∈ xs2, intGood x) :
    Calls Try.prog 9 #[.agg #[.int .i64 x0.bars, .int .i64 x0.rise, .int .i64 x0.fall, .int .i64 x0.clear, .int .i64 x0.near], .slice A1 n1 c1, .slice A2 n2 c2] w fun e w' => e = .returned (.bool true) ∧ Below w.heap.size w w' := by
  obtain ⟨hm1, P1, hg1⟩ := h1
  have hm1' := hm1
  unfold maxLen at hm1'
  replace hg1 := Lib.hid hg1
  obtain ⟨hm2, P2, hg2⟩ := h2
  have hm2' := hm2
  unfold maxLen at hm2'
  replace hg2 := Lib.hid hg2
  replace h0 := Lib.hid h0
  by_cases hbig2 : (1048576 : Int) < (n2 : Int)
  · go_enter Try.func9, Try.ntmps9
    go_wp2
    go_ret
    exact ⟨rfl, below_a1 _ _⟩
  have hn2 : n2 ≤ 1048576 := by omega
  have hgb2 : decide ((1048576 : Int) < (n2 : Int)) = false := decide_eq_false hbig2
  go_enter Try.func9, Try.ntmps9
  go_wp2_with fail
  refine (szIssB_any A1 n1 c1 1048576 xs1 _ (P1.below (below_a1 _ _)) (by omega) (by omega) hm1).mono ?_
  rintro e w1 ⟨l1, rfl, hla1, hlb1, hlc1, hb1⟩
  have Bb00 : w1.cell? ⟨w.heap.size, 0, none⟩ = some (.int .i64 x0.bars) := cell_step (cell_new (by simp) rfl) hb1
  have Bb01 : w1.cell? ⟨w.heap.size, 1, none⟩ = some (.int .i64 x0.rise) := cell_step (cell_new (by simp) rfl) hb1
  have Bb02 : w1.cell? ⟨w.heap.size, 2, none⟩ = some (.int .i64 x0.fall) := cell_step (cell_new (by simp) rfl) hb1
  have Bb03 : w1.cell? ⟨w.heap.size, 3, none⟩ = some (.int .i64 x0.clear) := cell_step (cell_new (by simp) rfl) hb1
  have Bb04 : w1.cell? ⟨w.heap.size, 4, none⟩ = some (.int .i64 x0.near) := cell_step (cell_new (by simp) rfl) hb1
  have hb1' := (below_a1 _ _).step hb1
  clear hb1
  have hb1 := hb1'
  clear hb1'
  have ltb01 := World.block_lt_of_cell? _ _ Bb00
  simp only at ltb01
  replace P1 := P1.below hb1
  replace P2 := P2.below hb1
  have hB1 := Lib.hid (hb1)
  clear hb1
  by_cases hbs1 : l1 < 0
  · go_wp2
    go_ret
    exact ⟨rfl, hB1.out⟩
  have hlen1 := hlc1 (by omega)
  have hn1 : n1 ≤ 1048576 := by omega
  have ht1 : tot xs1 ≤ 1048576 := by omega
  clear hlc1
  go_wp2_with fail
  refine (toBasket_any x0 _).mono ?_
  rintro e w2 ⟨rfl, hb2⟩
  replace Bb00 := cell_step Bb00 hb2
  replace Bb01 := cell_step Bb01 hb2
  replace Bb02 := cell_step Bb02 hb2
  replace Bb03 := cell_step Bb03 hb2
  replace Bb04 := cell_step Bb04 hb2
  have ltb02 := World.block_lt_of_cell? _ _ Bb00
  simp only at ltb02
  replace P1 := P1.below hb2
  replace P2 := P2.below hb2
  have hB2 := Lib.hid (hB1.out.step hb2)
  clear hB1
  clear hb2
  go_wp2_with fail
  refine (toIss_own A1 n1 c1 xs1 _ P1 hn1 ht1).mono ?_
  rintro e w3 ⟨gS1, rfl, S1, hb3⟩
  replace Bb00 := cell_step Bb00 hb3
  replace Bb01 := cell_step Bb01 hb3
  replace Bb02 := cell_step Bb02 hb3
  replace Bb03 := cell_step Bb03 hb3
  replace Bb04 := cell_step Bb04 hb3
  have ltb03 := World.block_lt_of_cell? _ _ Bb00
  simp only at ltb03
  replace P1 := P1.below hb3
  replace P2 := P2.below hb3
  have hB3 := Lib.hid (hB2.out.step hb3)
  clear hB2
  clear hb3
  replace S1 := S1.srow
  go_wp2_with fail
  refine (toIntS_own A2 n2 c2 xs2 _ P2 hn2).mono ?_
  rintro e w4 ⟨gS2, rfl, S2, hb4⟩
  replace Bb00 := cell_step Bb00 hb4
  replace Bb01 := cell_step Bb01 hb4
  replace Bb02 := cell_step Bb02 hb4
  replace Bb03 := cell_step Bb03 hb4
  replace Bb04 := cell_step Bb04 hb4
  have ltb04 := World.block_lt_of_cell? _ _ Bb00
  simp only at ltb04
  replace P1 := P1.below hb4
  replace P2 := P2.below hb4
  replace S1 := S1.below hb4
  have hB4 := Lib.hid (hB3.out.step hb4)
  clear hB3
  clear hb4
  replace S2 := S2.srow
  go_wp2_with fail
  refine (bs_spec x0 _ n1 n1 xs1 _ n2 n2 xs2 _ h0.out S1 hn1 hg1.out S2 hn2 hg2.out).mono ?_
  rintro e w5 ⟨rfl, hb5⟩
  replace Bb00 := cell_step Bb00 hb5
  replace Bb01 := cell_step Bb01 hb5
  replace Bb02 := cell_step Bb02 hb5
  replace Bb03 := cell_step Bb03 hb5
  replace Bb04 := cell_step Bb04 hb5
  have ltb05 := World.block_lt_of_cell? _ _ Bb00
  simp only at ltb05
  replace P1 := P1.below hb5
  replace P2 := P2.below hb5
  replace S1 := S1.below hb5
  replace S2 := S2.below hb5
  have hB5 := Lib.hid (hB4.out.step hb5)
  clear hB4
  clear hb5
  clear S1
  clear S2
  go_wp2_with fail
  refine (toIss_own A1 n1 c1 xs1 _ P1 hn1 ht1).mono ?_
  rintro e w6 ⟨gX1, rfl, X1, hb6⟩
  replace Bb00 := cell_step Bb00 hb6
  replace Bb01 := cell_step Bb01 hb6
  replace Bb02 := cell_step Bb02 hb6
  replace Bb03 := cell_step Bb03 hb6
  replace Bb04 := cell_step Bb04 hb6
  have ltb06 := World.block_lt_of_cell? _ _ Bb00
  simp only at ltb06
  replace P1 := P1.below hb6
  replace P2 := P2.below hb6
  have hB6 := Lib.hid (hB5.out.step hb6)
  clear hB5
  clear hb6
  replace X1 := X1.srow
  go_wp2_with fail
  refine (toIntS_own A2 n2 c2 xs2 _ P2 hn2).mono ?_
  rintro e w7 ⟨gX2, rfl, X2, hb7⟩
  replace Bb00 := cell_step Bb00 hb7
  replace Bb01 := cell_step Bb01 hb7
  replace Bb02 := cell_step Bb02 hb7
  replace Bb03 := cell_step Bb03 hb7
  replace Bb04 := cell_step Bb04 hb7
  have ltb07 := World.block_lt_of_cell? _ _ Bb00
  simp only at ltb07
  replace P1 := P1.below hb7
  replace P2 := P2.below hb7
  replace X1 := X1.below hb7
  have hB7 := Lib.hid (hB6.out.step hb7)
  clear hB6
  clear hb7
  replace X2 := X2.srow
  go_wp2_with fail
  refine (toBasket_any x0 _).mono ?_
  rintro e w8 ⟨rfl, hb8⟩
  replace Bb00 := cell_step Bb00 hb8
  replace Bb01 := cell_step Bb01 hb8
  replace Bb02 := cell_step Bb02 hb8
  replace Bb03 := cell_step Bb03 hb8
  replace Bb04 := cell_step Bb04 hb8
  have ltb08 := World.block_lt_of_cell? _ _ Bb00
  simp only at ltb08
  replace P1 := P1.below hb8
  replace P2 := P2.below hb8
  replace X1 := X1.below hb8
  replace X2 := X2.below hb8
  have hB8 := Lib.hid (hB7.out.step hb8)
  clear hB7
  clear hb8
  go_wp2_with fail
  refine (bs_impl x0 _ n1 n1 xs1 _ n2 n2 xs2 _ h0.out X1 hn1 hg1.out X2 hn2 hg2.out).mono ?_
  rintro e w9 ⟨rfl, hb9⟩
  replace Bb00 := cell_step Bb00 hb9
  replace Bb01 := cell_step Bb01 hb9
  replace Bb02 := cell_step Bb02 hb9
  replace Bb03 := cell_step Bb03 hb9
  replace Bb04 := cell_step Bb04 hb9
  have ltb09 := World.block_lt_of_cell? _ _ Bb00
  simp only at ltb09
  replace P1 := P1.below hb9
  replace P2 := P2.below hb9
  replace X1 := X1.below hb9
  replace X2 := X2.below hb9
  have hB9 := Lib.hid (hB8.out.step hb9)
  clear hB8
  clear hb9
  go_wp2_with fail
  refine (toIss_own A1 n1 c1 xs1 _ P1 hn1 ht1).mono ?_
  rintro e w10 ⟨gZ1, rfl, Z1, hb10⟩
  replace Bb00 := cell_step Bb00 hb10
  replace Bb01 := cell_step Bb01 hb10
  replace Bb02 := cell_step Bb02 hb10
  replace Bb03 := cell_step Bb03 hb10
  replace Bb04 := cell_step Bb04 hb10
  have ltb010 := World.block_lt_of_cell? _ _ Bb00
  simp only at ltb010
  replace P1 := P1.below hb10
  replace P2 := P2.below hb10
  replace X1 := X1.below hb10
  replace X2 := X2.below hb10
  have hB10 := Lib.hid (hB9.out.step hb10)
  clear hB9
  clear hb10
  replace Z1 := Z1.srow
  go_wp2_with fail
  refine (eqIss_any _ _ n1 n1 n1 n1 xs1 xs1 _ X1 Z1 rfl hn1 ht1).mono ?_
  rintro e w11 ⟨rfl, hb11⟩
  replace Bb00 := cell_step Bb00 hb11
  replace Bb01 := cell_step Bb01 hb11
  replace Bb02 := cell_step Bb02 hb11
  replace Bb03 := cell_step Bb03 hb11
  replace Bb04 := cell_step Bb04 hb11
  have ltb011 := World.block_lt_of_cell? _ _ Bb00
  simp only at ltb011
  replace P1 := P1.below hb11
  replace P2 := P2.below hb11
  replace X1 := X1.below hb11
  replace X2 := X2.below hb11
  replace Z1 := Z1.below hb11
  have hB11 := Lib.hid (hB10.out.step hb11)
  clear hB10
  clear hb11
  clear Z1
  clear X1
  go_wp2_with fail
  refine (toIntS_own A2 n2 c2 xs2 _ P2 hn2).mono ?_
  rintro e w12 ⟨gZ2, rfl, Z2, hb12⟩
  replace Bb00 := cell_step Bb00 hb12
  replace Bb01 := cell_step Bb01 hb12
  replace Bb02 := cell_step Bb02 hb12
  replace Bb03 := cell_step Bb03 hb12
  replace Bb04 := cell_step Bb04 hb12
  have ltb012 := World.block_lt_of_cell? _ _ Bb00
  simp only at ltb012
  replace P1 := P1.below hb12
  replace P2 := P2.below hb12
  replace X2 := X2.below hb12
  have hB12 := Lib.hid (hB11.out.step hb12)
  clear hB11
  clear hb12
  replace Z2 := Z2.srow
  go_wp2_with fail
  refine (eqIntS_any _ _ n2 n2 n2 n2 xs2 xs2 _ X2 Z2 rfl hn2).mono ?_
  rintro e w13 ⟨rfl, hb13⟩
  replace Bb00 := cell_step Bb00 hb13
  replace Bb01 := cell_step Bb01 hb13
  replace Bb02 := cell_step Bb02 hb13
  replace Bb03 := cell_step Bb03 hb13
  replace Bb04 := cell_step Bb04 hb13
  have ltb013 := World.block_lt_of_cell? _ _ Bb00
  simp only at ltb013
  replace P1 := P1.below hb13
  replace P2 := P2.below hb13
  replace X2 := X2.below hb13
  replace Z2 := Z2.below hb13
  have hB13 := Lib.hid (hB12.out.step hb13)
  clear hB12
  clear hb13
  clear Z2
  clear X2
  have hw := Lib.hid (hB13.out)
  clear hB13
  go_wp2
  go_ret
  exact ⟨rfl, hw.out⟩
end Go.Proofs.Ythgeoilkjloblaa
