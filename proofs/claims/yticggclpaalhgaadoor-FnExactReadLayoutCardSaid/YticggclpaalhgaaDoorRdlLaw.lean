/- The law FnExactReadLayout as one call: for every input it returns true. -/
import Derived.Test.YticggclpaalhgaaDoorRdl
import Derived.Test.YticggclpaalhgaaDoorLayD
import Derived.Test.YticggclpaalhgaaDoorLayL
import Derived.Deep.RegionHeld3
namespace Go.Proofs.YticggclpaalhgaaDoor
open Go.RowKit Go.ChangeShapes Go.WideShapes Go.Deep
set_option linter.unusedVariables false
set_option linter.unusedSimpArgs false

set_option maxRecDepth 100000 in
set_option maxHeartbeats 4000000 in
theorem fnExactReadLayout_any (s0 : ByteArray) (w : World) (h0 : s0.size ≤ maxLen) :
    Calls Tryd.prog 3 #[.string s0] w fun e w' => e = .returned (.bool true) ∧ Below w.heap.size w w' := by
  have h0' := h0
  unfold maxLen at h0'
  by_cases hbig0 : (1048576 : Int) < (s0.size : Int)
  · go_enter Tryd.func3, Tryd.ntmps3
    go_wp2
    go_ret
    exact ⟨rfl, Below.refl _ _⟩
  have hs0 : s0.size ≤ 1048576 := by omega
  have hgb0 : decide ((1048576 : Int) < (s0.size : Int)) = false := decide_eq_false hbig0
  go_enter Tryd.func3, Tryd.ntmps3
  go_wp2_with fail
  refine (rdl_spec s0 _ hs0).mono ?_
  rintro e w1 ⟨AW, nW, cW, rfl, hnW, W, hb1⟩
  have z1 := Lib.hid hb1.size
  have hB1 := Lib.hid hb1
  clear hb1
  replace W := W.srow
  have WW := Lib.hid W
  go_wp2_with fail
  refine (rdl_impl s0 _ hs0).mono ?_
  rintro e w2 ⟨AG, nG, cG, rfl, hnG, G, hb2⟩
  have BW : w2.cell? ⟨w1.heap.size, 0, none⟩ = some (.slice AW nW cW) := cell_step (cell_new (by simp) rfl) hb2
  have hb2' := (below_a1 _ _).step hb2
  have z2 := Lib.hid hb2.size
  clear hb2
  have hb2 := hb2'
  clear hb2'
  replace W := W.below hb2
  have hB2 := Lib.hid (hB1.out.step hb2)
  clear hB1
  clear hb2
  have ltW := World.block_lt_of_cell? _ _ BW
  simp only at ltW
  have ltG := Lib.hid G.lt
  go_wp2_with fail
  refine (eqLayS_any _ _ nG nW cG cW _ _ _ (G.below (below_a1 _ _)).srow (W.below (below_a1 _ _)) rfl hnG).mono ?_
  rintro e w3 ⟨rfl, hb3⟩
  clear ltW
  have Bg : w3.cell? ⟨w2.heap.size, 0, none⟩ = some (.slice AG nG cG) := cell_step (cell_new (by simp) rfl) hb3
  have hb3' := (below_a1 _ _).step hb3
  have z3 := Lib.hid hb3.size
  clear hb3
  have hb3 := hb3'
  clear hb3'
  replace BW := cell_step BW hb3
  replace W := W.below hb3
  replace G := G.below hb3
  have hB3 := Lib.hid (hB2.out.step hb3)
  clear hB2
  clear hb3
  have ltW := World.block_lt_of_cell? _ _ BW
  simp only at ltW
  have ltg := World.block_lt_of_cell? _ _ Bg
  simp only at ltg
  have owG := Lib.hid G.own
  go_wp2_with fail
  refine (markLayS_any _ nG cG 1 _ _ _ G hnG (by omega) (by omega)).mono ?_
  rintro e w4 ⟨rfl, M, hgr4⟩
  clear ltW
  clear ltg
  have z4 := Lib.hid hgr4.size
  replace W := SRow.above (B := AG) W WW.out hgr4 (fun q hq => by have y1 := z1.out; have y2 := z2.out; have y3 := z3.out; have y4 := z4.out; have l0 := owG.out q hq; have l1 := ltG.out q hq; (try simp only [World.size_alloc] at *); omega)
  replace BW := cell_grown_ne (B := AG) BW hgr4 (fun q hq => by have y1 := z1.out; have y2 := z2.out; have y3 := z3.out; have y4 := z4.out; have l0 := owG.out q hq; have l1 := ltG.out q hq; (try simp only [World.size_alloc] at *); omega)
  replace Bg := cell_grown_ne (B := AG) Bg hgr4 (fun q hq => by have y1 := z1.out; have y2 := z2.out; have y3 := z3.out; have y4 := z4.out; have l0 := owG.out q hq; have l1 := ltG.out q hq; (try simp only [World.size_alloc] at *); omega)
  have hB4 := Lib.hid (below_grown (A := AG) hB3.out (hB3.out.size) hgr4 (fun q hq => by have y1 := z1.out; have y2 := z2.out; have y3 := z3.out; have y4 := z4.out; have l0 := owG.out q hq; have l1 := ltG.out q hq; (try simp only [World.size_alloc] at *); omega))
  clear hB3 hgr4
  have ltW := World.block_lt_of_cell? _ _ BW
  simp only at ltW
  have ltg := World.block_lt_of_cell? _ _ Bg
  simp only at ltg
  clear G
  replace M := M.srow
  have hqq : decide (1 + (nG : Int) < 0) = false := decide_eq_false (by omega)
  go_wp2_with fail
  refine (heldLayS_any _ nG cG 1 _ M hnG (by omega) (by omega)).mono ?_
  rintro e w5 ⟨rfl, hb5⟩
  clear ltW
  clear ltg
  have z5 := Lib.hid hb5.size
  replace BW := cell_step BW hb5
  replace Bg := cell_step Bg hb5
  replace W := W.below hb5
  replace M := M.below hb5
  have hB5 := Lib.hid (hB4.out.step hb5)
  clear hB4
  clear hb5
  have ltW := World.block_lt_of_cell? _ _ BW
  simp only at ltW
  have ltg := World.block_lt_of_cell? _ _ Bg
  simp only at ltg
  go_wp2_with fail
  refine (rdl_impl s0 _ hs0).mono ?_
  rintro e w6 ⟨AH, nH, cH, rfl, hnH, H, hb6⟩
  clear ltW
  clear ltg
  have z6 := Lib.hid hb6.size
  replace BW := cell_step BW hb6
  replace Bg := cell_step Bg hb6
  replace W := W.below hb6
  replace M := M.below hb6
  have hB6 := Lib.hid (hB5.out.step hb6)
  clear hB5
  clear hb6
  have ltW := World.block_lt_of_cell? _ _ BW
  simp only at ltW
  have ltg := World.block_lt_of_cell? _ _ Bg
  simp only at ltg
  go_wp2_with fail
  refine (eqLayS_any _ _ nH nW cH cW _ _ _ (H.below (below_a1 _ _)).srow (W.below (below_a1 _ _)) rfl hnH).mono ?_
  rintro e w7 ⟨rfl, hb7⟩
  clear ltW
  clear ltg
  have Bh : w7.cell? ⟨w6.heap.size, 0, none⟩ = some (.slice AH nH cH) := cell_step (cell_new (by simp) rfl) hb7
  have hb7' := (below_a1 _ _).step hb7
  have z7 := Lib.hid hb7.size
  clear hb7
  have hb7 := hb7'
  clear hb7'
  replace BW := cell_step BW hb7
  replace Bg := cell_step Bg hb7
  replace W := W.below hb7
  replace M := M.below hb7
  replace H := H.below hb7
  have hB7 := Lib.hid (hB6.out.step hb7)
  clear hB6
  clear hb7
  have ltW := World.block_lt_of_cell? _ _ BW
  simp only at ltW
  have ltg := World.block_lt_of_cell? _ _ Bg
  simp only at ltg
  have lth := World.block_lt_of_cell? _ _ Bh
  simp only at lth
  go_wp2_with fail
  refine (heldLayS_any _ nG cG 1 _ M hnG (by omega) (by omega)).mono ?_
  rintro e w8 ⟨rfl, hb8⟩
  clear ltW
  clear ltg
  clear lth
  have z8 := Lib.hid hb8.size
  replace BW := cell_step BW hb8
  replace Bg := cell_step Bg hb8
  replace Bh := cell_step Bh hb8
  replace W := W.below hb8
  replace M := M.below hb8
  replace H := H.below hb8
  have hB8 := Lib.hid (hB7.out.step hb8)
  clear hB7
  clear hb8
  have ltW := World.block_lt_of_cell? _ _ BW
  simp only at ltW
  have ltg := World.block_lt_of_cell? _ _ Bg
  simp only at ltg
  have lth := World.block_lt_of_cell? _ _ Bh
  simp only at lth
  have hw := hB8
  clear hB8
  go_wp2
  go_ret
  exact ⟨rfl, hw.out⟩
end Go.Proofs.YticggclpaalhgaaDoor
