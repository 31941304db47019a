/- The law FnExactShadesOf as one call: for every input it returns true. -/
import Derived.Test.YtceedmejmmoepaaRc3
import Derived.Test.YtceedmejmmoepaaRc6
import Derived.Test.YtceedmejmmoepaaRibO
import Derived.Test.YtceedmejmmoepaaIntO
namespace Go.Proofs.Ytceedmejmmoepaa
open Go.RowKit
set_option linter.unusedVariables false
set_option linter.unusedSimpArgs false

set_option maxRecDepth 100000 in
set_option maxHeartbeats 4000000 in
theorem fnExactShadesOf_any (x0 : RibbonD) (a1 : Int) (s2 : ByteArray) (w : World) (h0 : x0.good) (h1 : (Lit.int .i64 a1).wf = true) (h2 : s2.size ≤ maxLen) :
    Calls Try.prog 8 #[.agg #[.int .i64 x0.spots, .int .i64 x0.ink, .int .i64 x0.takes], .int .i64 a1, .string s2] w fun e w' => e = .returned (.bool true) ∧ Below w.heap.size w w' := by
  have key0 := Lib.hid True.intro
  replace h1 := Lib.hid h1
  replace h0 := Lib.hid h0
  have h2' := h2
  unfold maxLen at h2'
  by_cases hbig2 : (1048576 : Int) < (s2.size : Int)
  · go_enter Try.func8, Try.ntmps8
    go_wp2
    go_ret
    exact ⟨rfl, below_a1 _ _⟩
  have hs2 : s2.size ≤ 1048576 := by omega
  have hgb2 : decide ((1048576 : Int) < (s2.size : Int)) = false := decide_eq_false hbig2
  go_enter Try.func8, Try.ntmps8
  go_wp2_with fail
  refine (toRibbon_any x0 _).mono ?_
  rintro e w1 ⟨rfl, hb1⟩
  have Bb00 : w1.cell? ⟨w.heap.size, 0, none⟩ = some (.int .i64 x0.spots) := cell_step (cell_new (by simp) rfl) hb1
  have Bb01 : w1.cell? ⟨w.heap.size, 1, none⟩ = some (.int .i64 x0.ink) := cell_step (cell_new (by simp) rfl) hb1
  have Bb02 : w1.cell? ⟨w.heap.size, 2, none⟩ = some (.int .i64 x0.takes) := cell_step (cell_new (by simp) rfl) hb1
  have hb1' := (below_a1 _ _).step hb1
  clear hb1
  have hb1 := hb1'
  clear hb1'
  have ltb00 := Lib.hid (World.block_lt_of_cell? _ _ Bb00)
  have ltb01 := World.block_lt_of_cell? _ _ Bb00
  simp only at ltb01
  have hB1 := Lib.hid (hb1)
  have z1 := Lib.hid hb1.size
  clear hb1
  go_wp2_with fail
  refine (sh14_spec x0 a1 s2 _ h0.out h1.out hs2).mono ?_
  rintro e w2 ⟨AW, nW, cW, rfl, hnW, W, hb2⟩
  replace Bb00 := cell_step Bb00 hb2
  replace Bb01 := cell_step Bb01 hb2
  replace Bb02 := cell_step Bb02 hb2
  have ltb02 := World.block_lt_of_cell? _ _ Bb00
  simp only at ltb02
  have hB2 := Lib.hid (hB1.out.step hb2)
  clear hB1
  have z2 := Lib.hid hb2.size
  clear hb2
  replace W := W.srow
  have WW := Lib.hid W
  go_wp2_with fail
  refine (toRibbon_any x0 _).mono ?_
  rintro e w3 ⟨rfl, hb3⟩
  replace Bb00 := cell_step Bb00 hb3
  replace Bb01 := cell_step Bb01 hb3
  replace Bb02 := cell_step Bb02 hb3
  have ltb03 := World.block_lt_of_cell? _ _ Bb00
  simp only at ltb03
  replace W := W.below hb3
  have hB3 := Lib.hid (hB2.out.step hb3)
  clear hB2
  have z3 := Lib.hid hb3.size
  clear hb3
  go_wp2_with fail
  refine (sh14_impl x0 a1 s2 _ h0.out h1.out hs2).mono ?_
  rintro e w4 ⟨AG, nG, cG, rfl, hnG, G, hb4⟩
  replace Bb00 := cell_step Bb00 hb4
  replace Bb01 := cell_step Bb01 hb4
  replace Bb02 := cell_step Bb02 hb4
  have ltb04 := World.block_lt_of_cell? _ _ Bb00
  simp only at ltb04
  replace W := W.below hb4
  have hB4 := Lib.hid (hB3.out.step hb4)
  clear hB3
  have z4 := Lib.hid hb4.size
  clear hb4
  go_wp2_with fail
  refine (eqIntS_any _ _ nG nW cG cW _ _ _ G.srow W rfl hnG).mono ?_
  rintro e w5 ⟨rfl, hb5⟩
  replace Bb00 := cell_step Bb00 hb5
  replace Bb01 := cell_step Bb01 hb5
  replace Bb02 := cell_step Bb02 hb5
  have ltb05 := World.block_lt_of_cell? _ _ Bb00
  simp only at ltb05
  replace W := W.below hb5
  replace G := G.below hb5
  have hB5 := Lib.hid (hB4.out.step hb5)
  clear hB4
  have z5 := Lib.hid hb5.size
  clear hb5
  have owG := Lib.hid G.own
  go_wp2_with fail
  refine (markIntS_any _ nG cG 1 _ _ _ G hnG (by omega) (by omega)).mono ?_
  rintro e w6 ⟨rfl, M, hgr6⟩
  have z6 := Lib.hid hgr6.size
  have lowq := Lib.hid (owG.out)
  replace W := SRow.above (B := AG) W WW.out hgr6 (fun q hq => by have y1 := z1.out; have y2 := z2.out; have y3 := z3.out; have y4 := z4.out; have y5 := z5.out; have y6 := z6.out; have l0 := lowq.out q hq; omega)
  replace Bb00 := cell_grown (B := AG) Bb00 hgr6 (fun q hq => by have y1 := z1.out; have y2 := z2.out; have y3 := z3.out; have y4 := z4.out; have y5 := z5.out; have y6 := z6.out; have l0 := lowq.out q hq; have l1 := ltb00.out; simp only; omega)
  replace Bb01 := cell_grown (B := AG) Bb01 hgr6 (fun q hq => by have y1 := z1.out; have y2 := z2.out; have y3 := z3.out; have y4 := z4.out; have y5 := z5.out; have y6 := z6.out; have l0 := lowq.out q hq; have l1 := ltb00.out; simp only; omega)
  replace Bb02 := cell_grown (B := AG) Bb02 hgr6 (fun q hq => by have y1 := z1.out; have y2 := z2.out; have y3 := z3.out; have y4 := z4.out; have y5 := z5.out; have y6 := z6.out; have l0 := lowq.out q hq; have l1 := ltb00.out; simp only; omega)
  have hB6 := Lib.hid (below_grown (A := AG) hB5.out (hB5.out.size) hgr6 (fun q hq => by have y1 := z1.out; have y2 := z2.out; have y3 := z3.out; have y4 := z4.out; have y5 := z5.out; have l0 := lowq.out q hq; omega))
  clear hB5 hgr6 lowq
  have ltb06 := World.block_lt_of_cell? _ _ Bb00
  simp only at ltb06
  clear G
  replace M := M.srow
  have hqq : decide (1 + (nG : Int) < 0) = false := decide_eq_false (by omega)
  go_wp2_with fail
  refine (heldIntS_any _ nG cG 1 _ M hnG (by omega) (by omega)).mono ?_
  rintro e w7 ⟨rfl, hb7⟩
  replace Bb00 := cell_step Bb00 hb7
  replace Bb01 := cell_step Bb01 hb7
  replace Bb02 := cell_step Bb02 hb7
  have ltb07 := World.block_lt_of_cell? _ _ Bb00
  simp only at ltb07
  replace W := W.below hb7
  replace M := M.below hb7
  have hB7 := Lib.hid (hB6.out.step hb7)
  clear hB6
  have z7 := Lib.hid hb7.size
  clear hb7
  go_wp2_with fail
  refine (toRibbon_any x0 _).mono ?_
  rintro e w8 ⟨rfl, hb8⟩
  replace Bb00 := cell_step Bb00 hb8
  replace Bb01 := cell_step Bb01 hb8
  replace Bb02 := cell_step Bb02 hb8
  have ltb08 := World.block_lt_of_cell? _ _ Bb00
  simp only at ltb08
  replace W := W.below hb8
  replace M := M.below hb8
  have hB8 := Lib.hid (hB7.out.step hb8)
  clear hB7
  have z8 := Lib.hid hb8.size
  clear hb8
  go_wp2_with fail
  refine (sh14_impl x0 a1 s2 _ h0.out h1.out hs2).mono ?_
  rintro e w9 ⟨AH, nH, cH, rfl, hnH, H, hb9⟩
  replace Bb00 := cell_step Bb00 hb9
  replace Bb01 := cell_step Bb01 hb9
  replace Bb02 := cell_step Bb02 hb9
  have ltb09 := World.block_lt_of_cell? _ _ Bb00
  simp only at ltb09
  replace W := W.below hb9
  replace M := M.below hb9
  have hB9 := Lib.hid (hB8.out.step hb9)
  clear hB8
  have z9 := Lib.hid hb9.size
  clear hb9
  replace H := H.srow
  go_wp2_with fail
  refine (eqIntS_any _ _ nH nW cH cW _ _ _ H W rfl hnH).mono ?_
  rintro e w10 ⟨rfl, hb10⟩
  replace Bb00 := cell_step Bb00 hb10
  replace Bb01 := cell_step Bb01 hb10
  replace Bb02 := cell_step Bb02 hb10
  have ltb010 := World.block_lt_of_cell? _ _ Bb00
  simp only at ltb010
  replace W := W.below hb10
  replace M := M.below hb10
  replace H := H.below hb10
  have hB10 := Lib.hid (hB9.out.step hb10)
  clear hB9
  have z10 := Lib.hid hb10.size
  clear hb10
  go_wp2_with fail
  refine (heldIntS_any _ nG cG 1 _ M hnG (by omega) (by omega)).mono ?_
  rintro e w11 ⟨rfl, hb11⟩
  replace Bb00 := cell_step Bb00 hb11
  replace Bb01 := cell_step Bb01 hb11
  replace Bb02 := cell_step Bb02 hb11
  have ltb011 := World.block_lt_of_cell? _ _ Bb00
  simp only at ltb011
  replace W := W.below hb11
  replace M := M.below hb11
  replace H := H.below hb11
  have hB11 := Lib.hid (hB10.out.step hb11)
  clear hB10
  have z11 := Lib.hid hb11.size
  clear hb11
  have hw := Lib.hid (hB11.out)
  clear hB11
  go_wp2
  go_ret
  exact ⟨rfl, hw.out⟩
end Go.Proofs.Ytceedmejmmoepaa
