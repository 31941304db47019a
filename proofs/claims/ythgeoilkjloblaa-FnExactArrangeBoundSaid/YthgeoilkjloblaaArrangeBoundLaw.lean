/- The law FnExactArrangeBound as one call: for every input it returns true. -/
import Derived.Test.YthgeoilkjloblaaArrG
import Derived.Test.YthgeoilkjloblaaIssO
import Derived.Test.YthgeoilkjloblaaArrC
namespace Go.Proofs.Ythgeoilkjloblaa
open Go.RowKit
set_option linter.unusedVariables false
set_option linter.unusedSimpArgs false

set_option maxRecDepth 100000 in
set_option maxHeartbeats 4000000 in
theorem fnExactArrangeBound_any (x0 : BasketD) (A1 : Option Addr) (n1 c1 : Nat) (xs1 : List (List Int)) (w : World) (h0 : x0.good) (h1 : n1 ≤ maxLen ∧ IntSS w A1 n1 xs1 ∧ ∀ x ∈ xs1, issGood x) :
    Calls Try.prog 7 #[.agg #[.int .i64 x0.bars, .int .i64 x0.rise, .int .i64 x0.fall, .int .i64 x0.clear, .int .i64 x0.near], .slice A1 n1 c1] w fun e w' => e = .returned (.bool true) ∧ Below w.heap.size w w' := by
  obtain ⟨hm1, P1, hg1⟩ := h1
  have hm1' := hm1
  unfold maxLen at hm1'
  replace hg1 := Lib.hid hg1
  replace h0 := Lib.hid h0
  go_enter Try.func7, Try.ntmps7
  go_wp2_with fail
  refine (szIssB_any A1 n1 c1 1048576 xs1 _ (P1.below (below_a1 _ _)) (by omega) (by omega) hm1).mono ?_
  rintro e w1 ⟨l1, rfl, hla1, hlb1, hlc1, hb1⟩
  have Bb00 : w1.cell? ⟨w.heap.size, 0, none⟩ = some (.int .i64 x0.bars) := cell_step (cell_new (by simp) rfl) hb1
  have Bb01 : w1.cell? ⟨w.heap.size, 1, none⟩ = some (.int .i64 x0.rise) := cell_step (cell_new (by simp) rfl) hb1
  have Bb02 : w1.cell? ⟨w.heap.size, 2, none⟩ = some (.int .i64 x0.fall) := cell_step (cell_new (by simp) rfl) hb1
  have Bb03 : w1.cell? ⟨w.heap.size, 3, none⟩ = some (.int .i64 x0.clear) := cell_step (cell_new (by simp) rfl) hb1
  have Bb04 : w1.cell? ⟨w.heap.size, 4, none⟩ = some (.int .i64 x0.near) := cell_step (cell_new (by simp) rfl) hb1
  have hb1' := (below_a1 _ _).step hb1
  clear hb1
  have hb1 := hb1'
  clear hb1'
  have ltb01 := World.block_lt_of_cell? _ _ Bb00
  simp only at ltb01
  replace P1 := P1.below hb1
  have hB1 := Lib.hid (hb1)
  clear hb1
  by_cases hbs1 : l1 < 0
  · go_wp2
    go_ret
    exact ⟨rfl, hB1.out⟩
  have hlen1 := hlc1 (by omega)
  have hn1 : n1 ≤ 1048576 := by omega
  have ht1 : tot xs1 ≤ 1048576 := by omega
  clear hlc1
  go_wp2_with fail
  refine (toBasket_any x0 _).mono ?_
  rintro e w2 ⟨rfl, hb2⟩
  replace Bb00 := cell_step Bb00 hb2
  replace Bb01 := cell_step Bb01 hb2
  replace Bb02 := cell_step Bb02 hb2
  replace Bb03 := cell_step Bb03 hb2
  replace Bb04 := cell_step Bb04 hb2
  have ltb02 := World.block_lt_of_cell? _ _ Bb00
  simp only at ltb02
  replace P1 := P1.below hb2
  have hB2 := Lib.hid (hB1.out.step hb2)
  clear hB1
  clear hb2
  go_wp2_with fail
  refine (toIss_own A1 n1 c1 xs1 _ P1 hn1 ht1).mono ?_
  rintro e w3 ⟨gS1, rfl, S1, hb3⟩
  replace Bb00 := cell_step Bb00 hb3
  replace Bb01 := cell_step Bb01 hb3
  replace Bb02 := cell_step Bb02 hb3
  replace Bb03 := cell_step Bb03 hb3
  replace Bb04 := cell_step Bb04 hb3
  have ltb03 := World.block_lt_of_cell? _ _ Bb00
  simp only at ltb03
  replace P1 := P1.below hb3
  have hB3 := Lib.hid (hB2.out.step hb3)
  clear hB2
  clear hb3
  replace S1 := S1.srow
  go_wp2_with fail
  refine (ab_spec x0 _ n1 n1 xs1 _ h0.out S1 hn1 hg1.out).mono ?_
  rintro e w4 ⟨rfl, hb4⟩
  replace Bb00 := cell_step Bb00 hb4
  replace Bb01 := cell_step Bb01 hb4
  replace Bb02 := cell_step Bb02 hb4
  replace Bb03 := cell_step Bb03 hb4
  replace Bb04 := cell_step Bb04 hb4
  have ltb04 := World.block_lt_of_cell? _ _ Bb00
  simp only at ltb04
  replace P1 := P1.below hb4
  replace S1 := S1.below hb4
  have hB4 := Lib.hid (hB3.out.step hb4)
  clear hB3
  clear hb4
  clear S1
  go_wp2_with fail
  refine (toIss_own A1 n1 c1 xs1 _ P1 hn1 ht1).mono ?_
  rintro e w5 ⟨gX1, rfl, X1, hb5⟩
  replace Bb00 := cell_step Bb00 hb5
  replace Bb01 := cell_step Bb01 hb5
  replace Bb02 := cell_step Bb02 hb5
  replace Bb03 := cell_step Bb03 hb5
  replace Bb04 := cell_step Bb04 hb5
  have ltb05 := World.block_lt_of_cell? _ _ Bb00
  simp only at ltb05
  replace P1 := P1.below hb5
  have hB5 := Lib.hid (hB4.out.step hb5)
  clear hB4
  clear hb5
  replace X1 := X1.srow
  go_wp2_with fail
  refine (toBasket_any x0 _).mono ?_
  rintro e w6 ⟨rfl, hb6⟩
  replace Bb00 := cell_step Bb00 hb6
  replace Bb01 := cell_step Bb01 hb6
  replace Bb02 := cell_step Bb02 hb6
  replace Bb03 := cell_step Bb03 hb6
  replace Bb04 := cell_step Bb04 hb6
  have ltb06 := World.block_lt_of_cell? _ _ Bb00
  simp only at ltb06
  replace P1 := P1.below hb6
  replace X1 := X1.below hb6
  have hB6 := Lib.hid (hB5.out.step hb6)
  clear hB5
  clear hb6
  go_wp2_with fail
  refine (ab_impl x0 _ n1 n1 xs1 _ h0.out X1 hn1 hg1.out).mono ?_
  rintro e w7 ⟨rfl, hb7⟩
  replace Bb00 := cell_step Bb00 hb7
  replace Bb01 := cell_step Bb01 hb7
  replace Bb02 := cell_step Bb02 hb7
  replace Bb03 := cell_step Bb03 hb7
  replace Bb04 := cell_step Bb04 hb7
  have ltb07 := World.block_lt_of_cell? _ _ Bb00
  simp only at ltb07
  replace P1 := P1.below hb7
  replace X1 := X1.below hb7
  have hB7 := Lib.hid (hB6.out.step hb7)
  clear hB6
  clear hb7
  go_wp2_with fail
  refine (toIss_own A1 n1 c1 xs1 _ P1 hn1 ht1).mono ?_
  rintro e w8 ⟨gZ1, rfl, Z1, hb8⟩
  replace Bb00 := cell_step Bb00 hb8
  replace Bb01 := cell_step Bb01 hb8
  replace Bb02 := cell_step Bb02 hb8
  replace Bb03 := cell_step Bb03 hb8
  replace Bb04 := cell_step Bb04 hb8
  have ltb08 := World.block_lt_of_cell? _ _ Bb00
  simp only at ltb08
  replace P1 := P1.below hb8
  replace X1 := X1.below hb8
  have hB8 := Lib.hid (hB7.out.step hb8)
  clear hB7
  clear hb8
  replace Z1 := Z1.srow
  go_wp2_with fail
  refine (eqIss_any _ _ n1 n1 n1 n1 xs1 xs1 _ X1 Z1 rfl hn1 ht1).mono ?_
  rintro e w9 ⟨rfl, hb9⟩
  replace Bb00 := cell_step Bb00 hb9
  replace Bb01 := cell_step Bb01 hb9
  replace Bb02 := cell_step Bb02 hb9
  replace Bb03 := cell_step Bb03 hb9
  replace Bb04 := cell_step Bb04 hb9
  have ltb09 := World.block_lt_of_cell? _ _ Bb00
  simp only at ltb09
  replace P1 := P1.below hb9
  replace X1 := X1.below hb9
  replace Z1 := Z1.below hb9
  have hB9 := Lib.hid (hB8.out.step hb9)
  clear hB8
  clear hb9
  clear Z1
  clear X1
  have hw := Lib.hid (hB9.out)
  clear hB9
  go_wp2
  go_ret
  exact ⟨rfl, hw.out⟩
end Go.Proofs.Ythgeoilkjloblaa
