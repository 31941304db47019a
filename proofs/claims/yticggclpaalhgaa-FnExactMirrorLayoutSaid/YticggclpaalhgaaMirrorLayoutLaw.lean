/- The law FnExactMirrorLayout as one call: for every input it returns true. -/
import Derived.Test.YticggclpaalhgaaMir6
import Derived.Test.YticggclpaalhgaaRev6
import Derived.Test.YticggclpaalhgaaLayD
import Derived.Test.YticggclpaalhgaaLayL
import Derived.Deep.RegionHeld3
namespace Go.Proofs.Yticggclpaalhgaa
open Go.RowKit Go.ChangeShapes Go.WideShapes Go.Deep
set_option linter.unusedVariables false
set_option linter.unusedSimpArgs false

set_option maxRecDepth 100000 in
set_option maxHeartbeats 4000000 in
theorem fnExactMirrorLayout_any (A0 : Option Addr) (n0 c0 : Nat) (xs0 : List ByteArray) (w : World) (h0 : n0 ≤ maxLen ∧ Strs w A0 n0 xs0 ∧ ∀ x ∈ xs0, strGood x) :
    Calls Try.prog 12 #[.agg #[.slice A0 n0 c0]] w fun e w' => e = .returned (.bool true) ∧ Below w.heap.size w w' := by
  obtain ⟨hm0, P0, hg0⟩ := h0
  have hm0' := hm0
  unfold maxLen at hm0'
  replace hg0 := Lib.hid hg0
  have PP0 := Lib.hid P0
  go_enter Try.func12, Try.ntmps12
  go_wp2_with fail
  refine (szLayS_any A0 n0 c0 1048576 xs0 _ (P0.below (below_a1 _ _)) hg0.out (by omega) (by omega) hm0).mono ?_
  rintro e w1 ⟨l0, rfl, hla0, hlb0, hlc0, hb1⟩
  have Ba0 : w1.cell? ⟨w.heap.size, 0, none⟩ = some (.slice A0 n0 c0) := cell_step (cell_new (by simp) rfl) hb1
  have hb1' := (below_a1 _ _).step hb1
  have z1 := Lib.hid hb1.size
  clear hb1
  have hb1 := hb1'
  clear hb1'
  replace P0 := P0.below hb1
  have hB1 := Lib.hid hb1
  clear hb1
  have lta0 := World.block_lt_of_cell? _ _ Ba0
  simp only at lta0
  by_cases hbs0 : l0 < 0
  · go_wp2
    go_ret
    exact ⟨rfl, hB1.out⟩
  obtain ⟨hlen0, hsm0⟩ := hlc0 (by omega)
  have hn0 : n0 ≤ 1048576 := by omega
  replace hsm0 := Lib.hid hsm0
  clear hlc0
  go_wp2_with fail
  refine (toLay_own A0 n0 c0 xs0 _ P0 hn0).mono ?_
  rintro e w2 ⟨gS0, rfl, S0, hb2⟩
  clear lta0
  have z2 := Lib.hid hb2.size
  replace Ba0 := cell_step Ba0 hb2
  replace P0 := P0.below hb2
  have hB2 := Lib.hid (hB1.out.step hb2)
  clear hB1
  clear hb2
  have lta0 := World.block_lt_of_cell? _ _ Ba0
  simp only at lta0
  go_wp2_with fail
  refine (mi_spec _ n0 n0 xs0 _ S0.srow hn0 hsm0.out).mono ?_
  rintro e w3 ⟨AW, nW, cW, rfl, hnW, W, hb3⟩
  clear lta0
  have z3 := Lib.hid hb3.size
  replace Ba0 := cell_step Ba0 hb3
  replace P0 := P0.below hb3
  replace S0 := S0.below hb3
  have hB3 := Lib.hid (hB2.out.step hb3)
  clear hB2
  clear hb3
  have lta0 := World.block_lt_of_cell? _ _ Ba0
  simp only at lta0
  clear S0
  replace W := W.srow
  have WW := Lib.hid W
  go_wp2_with fail
  refine (toLay_own A0 n0 c0 xs0 _ (P0.below (below_a1 _ _)) hn0).mono ?_
  rintro e w4 ⟨gX0, rfl, X0, hb4⟩
  clear lta0
  have BW : w4.cell? ⟨w3.heap.size, 0, none⟩ = some (.slice AW nW cW) := cell_step (cell_new (by simp) rfl) hb4
  have hb4' := (below_a1 _ _).step hb4
  have z4 := Lib.hid hb4.size
  clear hb4
  have hb4 := hb4'
  clear hb4'
  replace Ba0 := cell_step Ba0 hb4
  replace P0 := P0.below hb4
  replace W := W.below hb4
  have hB4 := Lib.hid (hB3.out.step hb4)
  clear hB3
  clear hb4
  have lta0 := World.block_lt_of_cell? _ _ Ba0
  simp only at lta0
  have ltW := World.block_lt_of_cell? _ _ BW
  simp only at ltW
  have ltX0 := Lib.hid (X0.lt)
  have owX0 := Lib.hid (X0.own)
  go_wp2_with fail
  refine (mi_impl _ n0 n0 xs0 _ (X0.below (below_a1 _ _)).srow hn0 hsm0.out).mono ?_
  rintro e w5 ⟨AG, nG, cG, rfl, hnG, G, hb5⟩
  clear lta0
  clear ltW
  have Bx0 : w5.cell? ⟨w4.heap.size, 0, none⟩ = some (.slice (some ⟨gX0, 0, none⟩) n0 n0) := cell_step (cell_new (by simp) rfl) hb5
  have hb5' := (below_a1 _ _).step hb5
  have z5 := Lib.hid hb5.size
  clear hb5
  have hb5 := hb5'
  clear hb5'
  replace Ba0 := cell_step Ba0 hb5
  replace BW := cell_step BW hb5
  replace P0 := P0.below hb5
  replace W := W.below hb5
  replace X0 := X0.below hb5
  have hB5 := Lib.hid (hB4.out.step hb5)
  clear hB4
  clear hb5
  have lta0 := World.block_lt_of_cell? _ _ Ba0
  simp only at lta0
  have ltW := World.block_lt_of_cell? _ _ BW
  simp only at ltW
  have ltx0 := World.block_lt_of_cell? _ _ Bx0
  simp only at ltx0
  have ltG := Lib.hid G.lt
  go_wp2_with fail
  refine (eqLayS_any _ _ nG nW cG cW _ _ _ (G.below (below_a1 _ _)).srow (W.below (below_a1 _ _)) rfl hnG).mono ?_
  rintro e w6 ⟨rfl, hb6⟩
  clear lta0
  clear ltW
  clear ltx0
  have Bg : w6.cell? ⟨w5.heap.size, 0, none⟩ = some (.slice AG nG cG) := cell_step (cell_new (by simp) rfl) hb6
  have hb6' := (below_a1 _ _).step hb6
  have z6 := Lib.hid hb6.size
  clear hb6
  have hb6 := hb6'
  clear hb6'
  replace Ba0 := cell_step Ba0 hb6
  replace BW := cell_step BW hb6
  replace Bx0 := cell_step Bx0 hb6
  replace P0 := P0.below hb6
  replace W := W.below hb6
  replace X0 := X0.below hb6
  replace G := G.below hb6
  have hB6 := Lib.hid (hB5.out.step hb6)
  clear hB5
  clear hb6
  have lta0 := World.block_lt_of_cell? _ _ Ba0
  simp only at lta0
  have ltW := World.block_lt_of_cell? _ _ BW
  simp only at ltW
  have ltx0 := World.block_lt_of_cell? _ _ Bx0
  simp only at ltx0
  have ltg := World.block_lt_of_cell? _ _ Bg
  simp only at ltg
  go_wp2_with fail
  refine wp_region_held_drew (S := fun w' => Below w6.heap.size w6 w' ∧ w'.cell? ⟨w4.heap.size, 0, none⟩ = some (.slice (some ⟨gX0, 0, none⟩) n0 n0) ∧ w'.cell? ⟨w.heap.size, 0, none⟩ = some (.slice A0 n0 c0)) (by kernel_rfl) ?_ (fun hHeld => ?_)
  · exact ⟨(Below.refl _ _).drew, Bx0, Ba0⟩
  refine wpAnyH_take (i := 0) (v := ?vr60) rfl (by kernel_rfl) (by kernel_rfl) (by kernel_rfl) (fun _ _ _ h => h) (Or.inl ⟨rfl, ?yr60⟩) (by assumption) ?_
  case yr60 => (intro w hSw; (try dsimp only at hSw); go_simp; first | done | with_reducible rfl)
  simp only [List.getElem_toArray, List.getElem_cons_succ, List.getElem_cons_zero, Act.put, List.setIfInBounds_toArray, List.set_cons_zero, List.set_cons_succ]
  refine wpAnyH_take (i := 1) (v := ?vr61) rfl (by kernel_rfl) (by kernel_rfl) (by kernel_rfl) (fun _ _ _ h => h) (Or.inl ⟨rfl, ?yr61⟩) (by assumption) ?_
  case yr61 => (intro w hSw; (try dsimp only at hSw); go_simp; first | done | with_reducible rfl)
  simp only [List.getElem_toArray, List.getElem_cons_succ, List.getElem_cons_zero, Act.put, List.setIfInBounds_toArray, List.set_cons_zero, List.set_cons_succ]
  refine wpAnyH_ready (rs := [2]) (by kernel_rfl) (by simp) ?_
  refine AllReadyH.cons rfl (fun K hK => ?_) AllReadyH.nil
  go_simp
  refine (toLay_own A0 n0 c0 xs0 _ (P0.below hHeld.1) hn0).mono ?_
  rintro e wq6_1 ⟨gZ0, rfl, Z0, hq6_1⟩
  go_wp2_with fail
  refine hK.out _ _ ?_ (fun hHeld => ?_)
  · exact ⟨hHeld.1.step hq6_1, cell_step hHeld.2.1 hq6_1, cell_step hHeld.2.2 hq6_1⟩
  clear hK K
  try simp only [List.getElem_toArray, List.getElem_cons_succ, List.getElem_cons_zero, Act.put, List.setIfInBounds_toArray, List.set_cons_zero, List.set_cons_succ]
  refine wpAnyH_ready (rs := [3]) (by kernel_rfl) (by simp) ?_
  refine AllReadyH.cons rfl (fun K hK => ?_) AllReadyH.nil
  go_simp
  refine (eqLayS_any _ _ n0 n0 n0 n0 xs0 xs0 _ (X0.srow.below hHeld.1) Z0.srow rfl hn0).mono ?_
  rintro e wq6_2 ⟨rfl, hq6_2⟩
  replace Z0 := Z0.below hq6_2
  go_wp2_with fail
  refine hK.out _ _ ?_ (fun hHeld => ?_)
  · exact ⟨hHeld.1.step hq6_2, cell_step hHeld.2.1 hq6_2, cell_step hHeld.2.2 hq6_2⟩
  clear hK K
  try simp only [List.getElem_toArray, List.getElem_cons_succ, List.getElem_cons_zero, Act.put, List.setIfInBounds_toArray, List.set_cons_zero, List.set_cons_succ]
  refine wpAnyH_take (i := 4) (v := ?vr64) rfl (by kernel_rfl) (by kernel_rfl) (by kernel_rfl) (fun _ _ _ h => h) (Or.inl ⟨rfl, ?yr64⟩) (by assumption) ?_
  case yr64 => (intro w hSw; (try dsimp only at hSw); go_simp; first | done | with_reducible rfl)
  simp only [List.getElem_toArray, List.getElem_cons_succ, List.getElem_cons_zero, Act.put, List.setIfInBounds_toArray, List.set_cons_zero, List.set_cons_succ]
  refine wpAnyH_done (by kernel_rfl) ?_ _
  have hb7 := hHeld.1
  clear lta0
  clear ltW
  clear ltx0
  clear ltg
  obtain ⟨w7, hw7⟩ : ∃ x, x = wq6_2 := ⟨_, rfl⟩
  subst hw7
  have z7 := Lib.hid hb7.size
  replace Ba0 := cell_step Ba0 hb7
  replace BW := cell_step BW hb7
  replace Bx0 := cell_step Bx0 hb7
  replace Bg := cell_step Bg hb7
  replace P0 := P0.below hb7
  replace W := W.below hb7
  replace X0 := X0.below hb7
  replace G := G.below hb7
  have hB7 := Lib.hid (hB6.out.step hb7)
  clear hB6
  clear hb7
  have lta0 := World.block_lt_of_cell? _ _ Ba0
  simp only at lta0
  have ltW := World.block_lt_of_cell? _ _ BW
  simp only at ltW
  have ltx0 := World.block_lt_of_cell? _ _ Bx0
  simp only at ltx0
  have ltg := World.block_lt_of_cell? _ _ Bg
  simp only at ltg
  clear Z0
  clear hHeld
  have owG := Lib.hid G.own
  go_wp2_with fail
  refine (markLayS_any _ n0 n0 (1) xs0 _ _ X0 hn0 (by omega) (by omega)).mono ?_
  rintro e w8 ⟨rfl, hX0, hgr8⟩
  clear lta0
  clear ltW
  clear ltx0
  clear ltg
  have z8 := Lib.hid hgr8.size
  replace P0 := SRow.above (B := some ⟨gX0, 0, none⟩) P0 PP0.out hgr8 (fun q hq => by have y1 := z1.out; have y2 := z2.out; have y3 := z3.out; have y4 := z4.out; have y5 := z5.out; have y6 := z6.out; have y7 := z7.out; have y8 := z8.out; have l0 := owX0.out q hq; have l1 := ltX0.out q hq; (try simp only [World.size_alloc] at *); omega)
  replace W := SRow.above (B := some ⟨gX0, 0, none⟩) W WW.out hgr8 (fun q hq => by have y1 := z1.out; have y2 := z2.out; have y3 := z3.out; have y4 := z4.out; have y5 := z5.out; have y6 := z6.out; have y7 := z7.out; have y8 := z8.out; have l0 := owX0.out q hq; have l1 := ltX0.out q hq; (try simp only [World.size_alloc] at *); omega)
  replace G := ORow.kept (B := some ⟨gX0, 0, none⟩) G hgr8 (fun q hq => by have y1 := z1.out; have y2 := z2.out; have y3 := z3.out; have y4 := z4.out; have y5 := z5.out; have y6 := z6.out; have y7 := z7.out; have y8 := z8.out; have l0 := owX0.out q hq; have l1 := ltX0.out q hq; (try simp only [World.size_alloc] at *); omega)
  replace Ba0 := cell_grown_ne (B := some ⟨gX0, 0, none⟩) Ba0 hgr8 (fun q hq => by have y1 := z1.out; have y2 := z2.out; have y3 := z3.out; have y4 := z4.out; have y5 := z5.out; have y6 := z6.out; have y7 := z7.out; have y8 := z8.out; have l0 := owX0.out q hq; have l1 := ltX0.out q hq; (try simp only [World.size_alloc] at *); omega)
  replace BW := cell_grown_ne (B := some ⟨gX0, 0, none⟩) BW hgr8 (fun q hq => by have y1 := z1.out; have y2 := z2.out; have y3 := z3.out; have y4 := z4.out; have y5 := z5.out; have y6 := z6.out; have y7 := z7.out; have y8 := z8.out; have l0 := owX0.out q hq; have l1 := ltX0.out q hq; (try simp only [World.size_alloc] at *); omega)
  replace Bx0 := cell_grown_ne (B := some ⟨gX0, 0, none⟩) Bx0 hgr8 (fun q hq => by have y1 := z1.out; have y2 := z2.out; have y3 := z3.out; have y4 := z4.out; have y5 := z5.out; have y6 := z6.out; have y7 := z7.out; have y8 := z8.out; have l0 := owX0.out q hq; have l1 := ltX0.out q hq; (try simp only [World.size_alloc] at *); omega)
  replace Bg := cell_grown_ne (B := some ⟨gX0, 0, none⟩) Bg hgr8 (fun q hq => by have y1 := z1.out; have y2 := z2.out; have y3 := z3.out; have y4 := z4.out; have y5 := z5.out; have y6 := z6.out; have y7 := z7.out; have y8 := z8.out; have l0 := owX0.out q hq; have l1 := ltX0.out q hq; (try simp only [World.size_alloc] at *); omega)
  have hB8 := Lib.hid (below_grown (A := some ⟨gX0, 0, none⟩) hB7.out (hB7.out.size) hgr8 (fun q hq => by have y1 := z1.out; have y2 := z2.out; have y3 := z3.out; have y4 := z4.out; have y5 := z5.out; have y6 := z6.out; have y7 := z7.out; have y8 := z8.out; have l0 := owX0.out q hq; have l1 := ltX0.out q hq; (try simp only [World.size_alloc] at *); omega))
  clear hB7 hgr8
  have lta0 := World.block_lt_of_cell? _ _ Ba0
  simp only at lta0
  have ltW := World.block_lt_of_cell? _ _ BW
  simp only at ltW
  have ltx0 := World.block_lt_of_cell? _ _ Bx0
  simp only at ltx0
  have ltg := World.block_lt_of_cell? _ _ Bg
  simp only at ltg
  clear hX0 X0
  have hkk : decide (1 + (n0 : Int) < 0) = false := decide_eq_false (by omega)
  go_wp2_with fail
  refine (eqLayS_any _ _ nG nW cG cW _ _ _ G.srow W rfl hnG).mono ?_
  rintro e w9 ⟨rfl, hb9⟩
  clear lta0
  clear ltW
  clear ltx0
  clear ltg
  have z9 := Lib.hid hb9.size
  replace Ba0 := cell_step Ba0 hb9
  replace BW := cell_step BW hb9
  replace Bx0 := cell_step Bx0 hb9
  replace Bg := cell_step Bg hb9
  replace P0 := P0.below hb9
  replace W := W.below hb9
  replace G := G.below hb9
  have hB9 := Lib.hid (hB8.out.step hb9)
  clear hB8
  clear hb9
  have lta0 := World.block_lt_of_cell? _ _ Ba0
  simp only at lta0
  have ltW := World.block_lt_of_cell? _ _ BW
  simp only at ltW
  have ltx0 := World.block_lt_of_cell? _ _ Bx0
  simp only at ltx0
  have ltg := World.block_lt_of_cell? _ _ Bg
  simp only at ltg
  go_wp2_with fail
  refine (markLayS_any _ nG cG 1 _ _ _ G hnG (by omega) (by omega)).mono ?_
  rintro e w10 ⟨rfl, M, hgr10⟩
  clear lta0
  clear ltW
  clear ltx0
  clear ltg
  have z10 := Lib.hid hgr10.size
  replace P0 := SRow.above (B := AG) P0 PP0.out hgr10 (fun q hq => by have y1 := z1.out; have y2 := z2.out; have y3 := z3.out; have y4 := z4.out; have y5 := z5.out; have y6 := z6.out; have y7 := z7.out; have y8 := z8.out; have y9 := z9.out; have y10 := z10.out; have l0 := owG.out q hq; have l1 := ltG.out q hq; (try simp only [World.size_alloc] at *); omega)
  replace W := SRow.above (B := AG) W WW.out hgr10 (fun q hq => by have y1 := z1.out; have y2 := z2.out; have y3 := z3.out; have y4 := z4.out; have y5 := z5.out; have y6 := z6.out; have y7 := z7.out; have y8 := z8.out; have y9 := z9.out; have y10 := z10.out; have l0 := owG.out q hq; have l1 := ltG.out q hq; (try simp only [World.size_alloc] at *); omega)
  replace Ba0 := cell_grown_ne (B := AG) Ba0 hgr10 (fun q hq => by have y1 := z1.out; have y2 := z2.out; have y3 := z3.out; have y4 := z4.out; have y5 := z5.out; have y6 := z6.out; have y7 := z7.out; have y8 := z8.out; have y9 := z9.out; have y10 := z10.out; have l0 := owG.out q hq; have l1 := ltG.out q hq; (try simp only [World.size_alloc] at *); omega)
  replace BW := cell_grown_ne (B := AG) BW hgr10 (fun q hq => by have y1 := z1.out; have y2 := z2.out; have y3 := z3.out; have y4 := z4.out; have y5 := z5.out; have y6 := z6.out; have y7 := z7.out; have y8 := z8.out; have y9 := z9.out; have y10 := z10.out; have l0 := owG.out q hq; have l1 := ltG.out q hq; (try simp only [World.size_alloc] at *); omega)
  replace Bx0 := cell_grown_ne (B := AG) Bx0 hgr10 (fun q hq => by have y1 := z1.out; have y2 := z2.out; have y3 := z3.out; have y4 := z4.out; have y5 := z5.out; have y6 := z6.out; have y7 := z7.out; have y8 := z8.out; have y9 := z9.out; have y10 := z10.out; have l0 := owG.out q hq; have l1 := ltG.out q hq; (try simp only [World.size_alloc] at *); omega)
  replace Bg := cell_grown_ne (B := AG) Bg hgr10 (fun q hq => by have y1 := z1.out; have y2 := z2.out; have y3 := z3.out; have y4 := z4.out; have y5 := z5.out; have y6 := z6.out; have y7 := z7.out; have y8 := z8.out; have y9 := z9.out; have y10 := z10.out; have l0 := owG.out q hq; have l1 := ltG.out q hq; (try simp only [World.size_alloc] at *); omega)
  have hB10 := Lib.hid (below_grown (A := AG) hB9.out (hB9.out.size) hgr10 (fun q hq => by have y1 := z1.out; have y2 := z2.out; have y3 := z3.out; have y4 := z4.out; have y5 := z5.out; have y6 := z6.out; have y7 := z7.out; have y8 := z8.out; have y9 := z9.out; have y10 := z10.out; have l0 := owG.out q hq; have l1 := ltG.out q hq; (try simp only [World.size_alloc] at *); omega))
  clear hB9 hgr10
  have lta0 := World.block_lt_of_cell? _ _ Ba0
  simp only at lta0
  have ltW := World.block_lt_of_cell? _ _ BW
  simp only at ltW
  have ltx0 := World.block_lt_of_cell? _ _ Bx0
  simp only at ltx0
  have ltg := World.block_lt_of_cell? _ _ Bg
  simp only at ltg
  clear G
  replace M := M.srow
  have hqq : decide (1 + (nG : Int) < 0) = false := decide_eq_false (by omega)
  go_wp2_with fail
  refine (heldLayS_any _ nG cG 1 _ M hnG (by omega) (by omega)).mono ?_
  rintro e w11 ⟨rfl, hb11⟩
  clear lta0
  clear ltW
  clear ltx0
  clear ltg
  have z11 := Lib.hid hb11.size
  replace Ba0 := cell_step Ba0 hb11
  replace BW := cell_step BW hb11
  replace Bx0 := cell_step Bx0 hb11
  replace Bg := cell_step Bg hb11
  replace P0 := P0.below hb11
  replace W := W.below hb11
  replace M := M.below hb11
  have hB11 := Lib.hid (hB10.out.step hb11)
  clear hB10
  clear hb11
  have lta0 := World.block_lt_of_cell? _ _ Ba0
  simp only at lta0
  have ltW := World.block_lt_of_cell? _ _ BW
  simp only at ltW
  have ltx0 := World.block_lt_of_cell? _ _ Bx0
  simp only at ltx0
  have ltg := World.block_lt_of_cell? _ _ Bg
  simp only at ltg
  go_wp2_with fail
  refine (toLay_own A0 n0 c0 xs0 _ P0 hn0).mono ?_
  rintro e w12 ⟨gY0, rfl, Y0, hb12⟩
  clear lta0
  clear ltW
  clear ltx0
  clear ltg
  have z12 := Lib.hid hb12.size
  replace Ba0 := cell_step Ba0 hb12
  replace BW := cell_step BW hb12
  replace Bx0 := cell_step Bx0 hb12
  replace Bg := cell_step Bg hb12
  replace P0 := P0.below hb12
  replace W := W.below hb12
  replace M := M.below hb12
  have hB12 := Lib.hid (hB11.out.step hb12)
  clear hB11
  clear hb12
  have lta0 := World.block_lt_of_cell? _ _ Ba0
  simp only at lta0
  have ltW := World.block_lt_of_cell? _ _ BW
  simp only at ltW
  have ltx0 := World.block_lt_of_cell? _ _ Bx0
  simp only at ltx0
  have ltg := World.block_lt_of_cell? _ _ Bg
  simp only at ltg
  go_wp2_with fail
  refine (mi_impl _ n0 n0 xs0 _ Y0.srow hn0 hsm0.out).mono ?_
  rintro e w13 ⟨AH, nH, cH, rfl, hnH, H, hb13⟩
  clear lta0
  clear ltW
  clear ltx0
  clear ltg
  have z13 := Lib.hid hb13.size
  replace Ba0 := cell_step Ba0 hb13
  replace BW := cell_step BW hb13
  replace Bx0 := cell_step Bx0 hb13
  replace Bg := cell_step Bg hb13
  replace P0 := P0.below hb13
  replace W := W.below hb13
  replace M := M.below hb13
  replace Y0 := Y0.below hb13
  have hB13 := Lib.hid (hB12.out.step hb13)
  clear hB12
  clear hb13
  have lta0 := World.block_lt_of_cell? _ _ Ba0
  simp only at lta0
  have ltW := World.block_lt_of_cell? _ _ BW
  simp only at ltW
  have ltx0 := World.block_lt_of_cell? _ _ Bx0
  simp only at ltx0
  have ltg := World.block_lt_of_cell? _ _ Bg
  simp only at ltg
  clear Y0
  go_wp2_with fail
  refine (eqLayS_any _ _ nH nW cH cW _ _ _ (H.below (below_a1 _ _)).srow (W.below (below_a1 _ _)) rfl hnH).mono ?_
  rintro e w14 ⟨rfl, hb14⟩
  clear lta0
  clear ltW
  clear ltx0
  clear ltg
  have Bh : w14.cell? ⟨w13.heap.size, 0, none⟩ = some (.slice AH nH cH) := cell_step (cell_new (by simp) rfl) hb14
  have hb14' := (below_a1 _ _).step hb14
  have z14 := Lib.hid hb14.size
  clear hb14
  have hb14 := hb14'
  clear hb14'
  replace Ba0 := cell_step Ba0 hb14
  replace BW := cell_step BW hb14
  replace Bx0 := cell_step Bx0 hb14
  replace Bg := cell_step Bg hb14
  replace P0 := P0.below hb14
  replace W := W.below hb14
  replace M := M.below hb14
  replace H := H.below hb14
  have hB14 := Lib.hid (hB13.out.step hb14)
  clear hB13
  clear hb14
  have lta0 := World.block_lt_of_cell? _ _ Ba0
  simp only at lta0
  have ltW := World.block_lt_of_cell? _ _ BW
  simp only at ltW
  have ltx0 := World.block_lt_of_cell? _ _ Bx0
  simp only at ltx0
  have ltg := World.block_lt_of_cell? _ _ Bg
  simp only at ltg
  have lth := World.block_lt_of_cell? _ _ Bh
  simp only at lth
  go_wp2_with fail
  refine (heldLayS_any _ nG cG 1 _ M hnG (by omega) (by omega)).mono ?_
  rintro e w15 ⟨rfl, hb15⟩
  clear lta0
  clear ltW
  clear ltx0
  clear ltg
  clear lth
  have z15 := Lib.hid hb15.size
  replace Ba0 := cell_step Ba0 hb15
  replace BW := cell_step BW hb15
  replace Bx0 := cell_step Bx0 hb15
  replace Bg := cell_step Bg hb15
  replace Bh := cell_step Bh hb15
  replace P0 := P0.below hb15
  replace W := W.below hb15
  replace M := M.below hb15
  replace H := H.below hb15
  have hB15 := Lib.hid (hB14.out.step hb15)
  clear hB14
  clear hb15
  have lta0 := World.block_lt_of_cell? _ _ Ba0
  simp only at lta0
  have ltW := World.block_lt_of_cell? _ _ BW
  simp only at ltW
  have ltx0 := World.block_lt_of_cell? _ _ Bx0
  simp only at ltx0
  have ltg := World.block_lt_of_cell? _ _ Bg
  simp only at ltg
  have lth := World.block_lt_of_cell? _ _ Bh
  simp only at lth
  have hw := hB15
  clear hB15
  go_wp2
  go_ret
  exact ⟨rfl, hw.out⟩
end Go.Proofs.Yticggclpaalhgaa
