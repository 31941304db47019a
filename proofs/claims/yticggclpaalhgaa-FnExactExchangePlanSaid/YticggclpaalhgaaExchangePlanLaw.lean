/- The law FnExactExchangePlan as one call: for every input it returns true. -/
import Derived.Test.YticggclpaalhgaaPln2
import Derived.Test.YticggclpaalhgaaPln5
import Derived.Test.YticggclpaalhgaaLayD
import Derived.Test.YticggclpaalhgaaLayL
import Derived.Deep.RegionHeld3
namespace Go.Proofs.Yticggclpaalhgaa
open Go.RowKit Go.ChangeShapes Go.WideShapes Go.Deep
set_option linter.unusedVariables false
set_option linter.unusedSimpArgs false

set_option maxRecDepth 100000 in
set_option maxHeartbeats 4000000 in
theorem fnExactExchangePlan_any (A0 : Option Addr) (n0 c0 : Nat) (xs0 : List ByteArray) (A1 : Option Addr) (n1 c1 : Nat) (xs1 : List ByteArray) (w : World) (h0 : n0 ≤ maxLen ∧ Strs w A0 n0 xs0 ∧ ∀ x ∈ xs0, strGood x) (h1 : n1 ≤ maxLen ∧ Strs w A1 n1 xs1 ∧ ∀ x ∈ xs1, strGood x) :
    Calls Try.prog 9 #[.agg #[.slice A0 n0 c0], .agg #[.slice A1 n1 c1]] w fun e w' => e = .returned (.bool true) ∧ Below w.heap.size w w' := by
  obtain ⟨hm0, P0, hg0⟩ := h0
  have hm0' := hm0
  unfold maxLen at hm0'
  replace hg0 := Lib.hid hg0
  have PP0 := Lib.hid P0
  obtain ⟨hm1, P1, hg1⟩ := h1
  have hm1' := hm1
  unfold maxLen at hm1'
  replace hg1 := Lib.hid hg1
  have PP1 := Lib.hid P1
  go_enter Try.func9, Try.ntmps9
  go_wp2_with fail
  refine (szLayS_any A0 n0 c0 1048576 xs0 _ (P0.below (below_a2 _ _ _)) hg0.out (by omega) (by omega) hm0).mono ?_
  rintro e w1 ⟨l0, rfl, hla0, hlb0, hlc0, hb1⟩
  have Ba0 : w1.cell? ⟨w.heap.size, 0, none⟩ = some (.slice A0 n0 c0) := cell_step (cell_on (cell_new (by simp) rfl) _) hb1
  have Ba1 : w1.cell? ⟨w.heap.size + 1, 0, none⟩ = some (.slice A1 n1 c1) := cell_step (cell_new (by simp) rfl) hb1
  have hb1' := (below_a2 _ _ _).step hb1
  have z1 := Lib.hid hb1.size
  clear hb1
  have hb1 := hb1'
  clear hb1'
  replace P0 := P0.below hb1
  replace P1 := P1.below hb1
  have hB1 := Lib.hid hb1
  clear hb1
  have lta0 := World.block_lt_of_cell? _ _ Ba0
  simp only at lta0
  have lta1 := World.block_lt_of_cell? _ _ Ba1
  simp only at lta1
  by_cases hbs0 : l0 < 0
  · go_wp2
    go_ret
    exact ⟨rfl, hB1.out⟩
  obtain ⟨hlen0, hsm0⟩ := hlc0 (by omega)
  have hn0 : n0 ≤ 1048576 := by omega
  replace hsm0 := Lib.hid hsm0
  clear hlc0
  go_wp2_with fail
  refine (szLayS_any A1 n1 c1 l0 xs1 _ P1 hg1.out (by omega) (by omega) hm1).mono ?_
  rintro e w2 ⟨l1, rfl, hla1, hlb1, hlc1, hb2⟩
  clear lta0
  clear lta1
  have z2 := Lib.hid hb2.size
  replace Ba0 := cell_step Ba0 hb2
  replace Ba1 := cell_step Ba1 hb2
  replace P0 := P0.below hb2
  replace P1 := P1.below hb2
  have hB2 := Lib.hid (hB1.out.step hb2)
  clear hB1
  clear hb2
  have lta0 := World.block_lt_of_cell? _ _ Ba0
  simp only at lta0
  have lta1 := World.block_lt_of_cell? _ _ Ba1
  simp only at lta1
  by_cases hbs1 : l1 < 0
  · go_wp2
    go_ret
    exact ⟨rfl, hB2.out⟩
  obtain ⟨hlen1, hsm1⟩ := hlc1 (by omega)
  have hn1 : n1 ≤ 1048576 := by omega
  replace hsm1 := Lib.hid hsm1
  clear hlc1
  go_wp2_with fail
  refine wp_region_held_drew (S := fun w' => Below w2.heap.size w2 w' ∧ w'.cell? ⟨w.heap.size, 0, none⟩ = some (.slice A0 n0 c0) ∧ w'.cell? ⟨w.heap.size + 1, 0, none⟩ = some (.slice A1 n1 c1)) (by kernel_rfl) ?_ (fun hHeld => ?_)
  · exact ⟨(Below.refl _ _).drew, Ba0, Ba1⟩
  refine wpAnyH_take (i := 0) (v := ?vr20) rfl (by kernel_rfl) (by kernel_rfl) (by kernel_rfl) (fun _ _ _ h => h) (Or.inl ⟨rfl, ?yr20⟩) (by assumption) ?_
  case yr20 => (intro w hSw; (try dsimp only at hSw); go_simp; first | done | with_reducible rfl)
  simp only [List.getElem_toArray, List.getElem_cons_succ, List.getElem_cons_zero, Act.put, List.setIfInBounds_toArray, List.set_cons_zero, List.set_cons_succ]
  refine wpAnyH_take (i := 2) (v := ?vr22) rfl (by kernel_rfl) (by kernel_rfl) (by kernel_rfl) (fun _ _ _ h => h) (Or.inl ⟨rfl, ?yr22⟩) (by assumption) ?_
  case yr22 => (intro w hSw; (try dsimp only at hSw); go_simp; first | done | with_reducible rfl)
  simp only [List.getElem_toArray, List.getElem_cons_succ, List.getElem_cons_zero, Act.put, List.setIfInBounds_toArray, List.set_cons_zero, List.set_cons_succ]
  refine wpAnyH_ready (rs := [1]) (by kernel_rfl) (by simp) ?_
  refine AllReadyH.cons rfl (fun K hK => ?_) AllReadyH.nil
  go_simp
  refine (toLay_own A0 n0 c0 xs0 _ (P0.below hHeld.1) hn0).mono ?_
  rintro e wq2_1 ⟨gS0, rfl, S0, hq2_1⟩
  go_wp2_with fail
  refine hK.out _ _ ?_ (fun hHeld => ?_)
  · exact ⟨hHeld.1.step hq2_1, cell_step hHeld.2.1 hq2_1, cell_step hHeld.2.2 hq2_1⟩
  clear hK K
  try simp only [List.getElem_toArray, List.getElem_cons_succ, List.getElem_cons_zero, Act.put, List.setIfInBounds_toArray, List.set_cons_zero, List.set_cons_succ]
  refine wpAnyH_ready (rs := [3]) (by kernel_rfl) (by simp) ?_
  refine AllReadyH.cons rfl (fun K hK => ?_) AllReadyH.nil
  go_simp
  refine (toLay_own A1 n1 c1 xs1 _ (P1.below hHeld.1) hn1).mono ?_
  rintro e wq2_2 ⟨gS1, rfl, S1, hq2_2⟩
  replace S0 := S0.below hq2_2
  go_wp2_with fail
  refine hK.out _ _ ?_ (fun hHeld => ?_)
  · exact ⟨hHeld.1.step hq2_2, cell_step hHeld.2.1 hq2_2, cell_step hHeld.2.2 hq2_2⟩
  clear hK K
  try simp only [List.getElem_toArray, List.getElem_cons_succ, List.getElem_cons_zero, Act.put, List.setIfInBounds_toArray, List.set_cons_zero, List.set_cons_succ]
  refine wpAnyH_ready (rs := [4]) (by kernel_rfl) (by simp) ?_
  refine AllReadyH.cons rfl (fun K hK => ?_) AllReadyH.nil
  go_simp
  refine (ex_spec _ n0 n0 xs0 _ n1 n1 xs1 _ S0.srow hn0 hsm0.out S1.srow hn1 hsm1.out).mono ?_
  rintro e wq2_3 ⟨AW, nW, cW, rfl, hnW, W, hq2_3⟩
  replace S0 := S0.below hq2_3
  replace S1 := S1.below hq2_3
  go_wp2_with fail
  refine hK.out _ _ ?_ (fun hHeld => ?_)
  · exact ⟨hHeld.1.step hq2_3, cell_step hHeld.2.1 hq2_3, cell_step hHeld.2.2 hq2_3⟩
  clear hK K
  try simp only [List.getElem_toArray, List.getElem_cons_succ, List.getElem_cons_zero, Act.put, List.setIfInBounds_toArray, List.set_cons_zero, List.set_cons_succ]
  refine wpAnyH_take (i := 5) (v := ?vr25) rfl (by kernel_rfl) (by kernel_rfl) (by kernel_rfl) (fun _ _ _ h => h) (Or.inl ⟨rfl, ?yr25⟩) (by assumption) ?_
  case yr25 => (intro w hSw; (try dsimp only at hSw); go_simp; first | done | with_reducible rfl)
  simp only [List.getElem_toArray, List.getElem_cons_succ, List.getElem_cons_zero, Act.put, List.setIfInBounds_toArray, List.set_cons_zero, List.set_cons_succ]
  refine wpAnyH_take (i := 6) (v := ?vr26) rfl (by kernel_rfl) (by kernel_rfl) (by kernel_rfl) (fun _ _ _ h => h) (Or.inl ⟨rfl, ?yr26⟩) (by assumption) ?_
  case yr26 => (intro w hSw; (try dsimp only at hSw); go_simp; first | done | with_reducible rfl)
  simp only [List.getElem_toArray, List.getElem_cons_succ, List.getElem_cons_zero, Act.put, List.setIfInBounds_toArray, List.set_cons_zero, List.set_cons_succ]
  refine wpAnyH_take (i := 7) (v := ?vr27) rfl (by kernel_rfl) (by kernel_rfl) (by kernel_rfl) (fun _ _ _ h => h) (Or.inl ⟨rfl, ?yr27⟩) (by assumption) ?_
  case yr27 => (intro w hSw; (try dsimp only at hSw); go_simp; first | done | with_reducible rfl)
  simp only [List.getElem_toArray, List.getElem_cons_succ, List.getElem_cons_zero, Act.put, List.setIfInBounds_toArray, List.set_cons_zero, List.set_cons_succ]
  refine wpAnyH_take (i := 8) (v := ?vr28) rfl (by kernel_rfl) (by kernel_rfl) (by kernel_rfl) (fun _ _ _ h => h) (Or.inl ⟨rfl, ?yr28⟩) (by assumption) ?_
  case yr28 => (intro w hSw; (try dsimp only at hSw); go_simp; first | done | with_reducible rfl)
  simp only [List.getElem_toArray, List.getElem_cons_succ, List.getElem_cons_zero, Act.put, List.setIfInBounds_toArray, List.set_cons_zero, List.set_cons_succ]
  refine wpAnyH_take (i := 9) (v := ?vr29) rfl (by kernel_rfl) (by kernel_rfl) (by kernel_rfl) (fun _ _ _ h => h) (Or.inl ⟨rfl, ?yr29⟩) (by assumption) ?_
  case yr29 => (intro w hSw; (try dsimp only at hSw); go_simp; first | done | with_reducible rfl)
  simp only [List.getElem_toArray, List.getElem_cons_succ, List.getElem_cons_zero, Act.put, List.setIfInBounds_toArray, List.set_cons_zero, List.set_cons_succ]
  refine wpAnyH_done (by kernel_rfl) ?_ _
  have hb3 := hHeld.1
  clear lta0
  clear lta1
  obtain ⟨w3, hw3⟩ : ∃ x, x = wq2_3 := ⟨_, rfl⟩
  subst hw3
  have z3 := Lib.hid hb3.size
  replace Ba0 := cell_step Ba0 hb3
  replace Ba1 := cell_step Ba1 hb3
  replace P0 := P0.below hb3
  replace P1 := P1.below hb3
  have hB3 := Lib.hid (hB2.out.step hb3)
  clear hB2
  clear hb3
  have lta0 := World.block_lt_of_cell? _ _ Ba0
  simp only at lta0
  have lta1 := World.block_lt_of_cell? _ _ Ba1
  simp only at lta1
  clear S0
  clear S1
  replace W := W.srow
  have WW := Lib.hid W
  go_wp2_with fail
  refine (toLay_own A0 n0 c0 xs0 _ P0 hn0).mono ?_
  rintro e w4 ⟨gX0, rfl, X0, hb4⟩
  clear lta0
  clear lta1
  have z4 := Lib.hid hb4.size
  replace Ba0 := cell_step Ba0 hb4
  replace Ba1 := cell_step Ba1 hb4
  replace P0 := P0.below hb4
  replace P1 := P1.below hb4
  replace W := W.below hb4
  have hB4 := Lib.hid (hB3.out.step hb4)
  clear hB3
  clear hb4
  have lta0 := World.block_lt_of_cell? _ _ Ba0
  simp only at lta0
  have lta1 := World.block_lt_of_cell? _ _ Ba1
  simp only at lta1
  have ltX0 := Lib.hid (X0.lt)
  have owX0 := Lib.hid (X0.own)
  go_wp2_with fail
  refine (toLay_own A1 n1 c1 xs1 _ (P1.below (below_a1 _ _)) hn1).mono ?_
  rintro e w5 ⟨gX1, rfl, X1, hb5⟩
  clear lta0
  clear lta1
  have Bx0 : w5.cell? ⟨w4.heap.size, 0, none⟩ = some (.slice (some ⟨gX0, 0, none⟩) n0 n0) := cell_step (cell_new (by simp) rfl) hb5
  have hb5' := (below_a1 _ _).step hb5
  have z5 := Lib.hid hb5.size
  clear hb5
  have hb5 := hb5'
  clear hb5'
  replace Ba0 := cell_step Ba0 hb5
  replace Ba1 := cell_step Ba1 hb5
  replace P0 := P0.below hb5
  replace P1 := P1.below hb5
  replace W := W.below hb5
  replace X0 := X0.below hb5
  have hB5 := Lib.hid (hB4.out.step hb5)
  clear hB4
  clear hb5
  have lta0 := World.block_lt_of_cell? _ _ Ba0
  simp only at lta0
  have lta1 := World.block_lt_of_cell? _ _ Ba1
  simp only at lta1
  have ltx0 := World.block_lt_of_cell? _ _ Bx0
  simp only at ltx0
  have ltX1 := Lib.hid (X1.lt)
  have owX1 := Lib.hid (X1.own)
  go_wp2_with fail
  refine (ex_any _ n0 n0 xs0 _ n1 n1 xs1 _ (X0.below (below_a1 _ _)).srow hn0 hsm0.out (X1.below (below_a1 _ _)).srow hn1 hsm1.out (Nat.le_refl _) (Nat.le_refl _)).mono ?_
  rintro e w6 ⟨AG, nG, cG, rfl, hnG, G, hb6⟩
  clear lta0
  clear lta1
  clear ltx0
  have Bx1 : w6.cell? ⟨w5.heap.size, 0, none⟩ = some (.slice (some ⟨gX1, 0, none⟩) n1 n1) := cell_step (cell_new (by simp) rfl) hb6
  have hb6' := (below_a1 _ _).step hb6
  have z6 := Lib.hid hb6.size
  clear hb6
  have hb6 := hb6'
  clear hb6'
  replace Ba0 := cell_step Ba0 hb6
  replace Ba1 := cell_step Ba1 hb6
  replace Bx0 := cell_step Bx0 hb6
  replace P0 := P0.below hb6
  replace P1 := P1.below hb6
  replace W := W.below hb6
  replace X0 := X0.below hb6
  replace X1 := X1.below hb6
  have hB6 := Lib.hid (hB5.out.step hb6)
  clear hB5
  clear hb6
  have lta0 := World.block_lt_of_cell? _ _ Ba0
  simp only at lta0
  have lta1 := World.block_lt_of_cell? _ _ Ba1
  simp only at lta1
  have ltx0 := World.block_lt_of_cell? _ _ Bx0
  simp only at ltx0
  have ltx1 := World.block_lt_of_cell? _ _ Bx1
  simp only at ltx1
  have ltG := Lib.hid G.lt
  go_wp2_with fail
  refine (eqStrS_any _ _ nG nW cG cW _ _ _ G.srow W rfl hnG).mono ?_
  rintro e w7 ⟨rfl, hb7⟩
  clear lta0
  clear lta1
  clear ltx0
  clear ltx1
  have z7 := Lib.hid hb7.size
  replace Ba0 := cell_step Ba0 hb7
  replace Ba1 := cell_step Ba1 hb7
  replace Bx0 := cell_step Bx0 hb7
  replace Bx1 := cell_step Bx1 hb7
  replace P0 := P0.below hb7
  replace P1 := P1.below hb7
  replace W := W.below hb7
  replace X0 := X0.below hb7
  replace X1 := X1.below hb7
  replace G := G.below hb7
  have hB7 := Lib.hid (hB6.out.step hb7)
  clear hB6
  clear hb7
  have lta0 := World.block_lt_of_cell? _ _ Ba0
  simp only at lta0
  have lta1 := World.block_lt_of_cell? _ _ Ba1
  simp only at lta1
  have ltx0 := World.block_lt_of_cell? _ _ Bx0
  simp only at ltx0
  have ltx1 := World.block_lt_of_cell? _ _ Bx1
  simp only at ltx1
  go_wp2_with fail
  refine wp_region_held_drew (S := fun w' => Below w7.heap.size w7 w' ∧ w'.cell? ⟨w4.heap.size, 0, none⟩ = some (.slice (some ⟨gX0, 0, none⟩) n0 n0) ∧ w'.cell? ⟨w.heap.size, 0, none⟩ = some (.slice A0 n0 c0)) (by kernel_rfl) ?_ (fun hHeld => ?_)
  · exact ⟨(Below.refl _ _).drew, Bx0, Ba0⟩
  refine wpAnyH_take (i := 0) (v := ?vr70) rfl (by kernel_rfl) (by kernel_rfl) (by kernel_rfl) (fun _ _ _ h => h) (Or.inl ⟨rfl, ?yr70⟩) (by assumption) ?_
  case yr70 => (intro w hSw; (try dsimp only at hSw); go_simp; first | done | with_reducible rfl)
  simp only [List.getElem_toArray, List.getElem_cons_succ, List.getElem_cons_zero, Act.put, List.setIfInBounds_toArray, List.set_cons_zero, List.set_cons_succ]
  refine wpAnyH_take (i := 1) (v := ?vr71) rfl (by kernel_rfl) (by kernel_rfl) (by kernel_rfl) (fun _ _ _ h => h) (Or.inl ⟨rfl, ?yr71⟩) (by assumption) ?_
  case yr71 => (intro w hSw; (try dsimp only at hSw); go_simp; first | done | with_reducible rfl)
  simp only [List.getElem_toArray, List.getElem_cons_succ, List.getElem_cons_zero, Act.put, List.setIfInBounds_toArray, List.set_cons_zero, List.set_cons_succ]
  refine wpAnyH_ready (rs := [2]) (by kernel_rfl) (by simp) ?_
  refine AllReadyH.cons rfl (fun K hK => ?_) AllReadyH.nil
  go_simp
  refine (toLay_own A0 n0 c0 xs0 _ (P0.below hHeld.1) hn0).mono ?_
  rintro e wq7_1 ⟨gZ0, rfl, Z0, hq7_1⟩
  go_wp2_with fail
  refine hK.out _ _ ?_ (fun hHeld => ?_)
  · exact ⟨hHeld.1.step hq7_1, cell_step hHeld.2.1 hq7_1, cell_step hHeld.2.2 hq7_1⟩
  clear hK K
  try simp only [List.getElem_toArray, List.getElem_cons_succ, List.getElem_cons_zero, Act.put, List.setIfInBounds_toArray, List.set_cons_zero, List.set_cons_succ]
  refine wpAnyH_ready (rs := [3]) (by kernel_rfl) (by simp) ?_
  refine AllReadyH.cons rfl (fun K hK => ?_) AllReadyH.nil
  go_simp
  refine (eqLayS_any _ _ n0 n0 n0 n0 xs0 xs0 _ (X0.srow.below hHeld.1) Z0.srow rfl hn0).mono ?_
  rintro e wq7_2 ⟨rfl, hq7_2⟩
  replace Z0 := Z0.below hq7_2
  go_wp2_with fail
  refine hK.out _ _ ?_ (fun hHeld => ?_)
  · exact ⟨hHeld.1.step hq7_2, cell_step hHeld.2.1 hq7_2, cell_step hHeld.2.2 hq7_2⟩
  clear hK K
  try simp only [List.getElem_toArray, List.getElem_cons_succ, List.getElem_cons_zero, Act.put, List.setIfInBounds_toArray, List.set_cons_zero, List.set_cons_succ]
  refine wpAnyH_take (i := 4) (v := ?vr74) rfl (by kernel_rfl) (by kernel_rfl) (by kernel_rfl) (fun _ _ _ h => h) (Or.inl ⟨rfl, ?yr74⟩) (by assumption) ?_
  case yr74 => (intro w hSw; (try dsimp only at hSw); go_simp; first | done | with_reducible rfl)
  simp only [List.getElem_toArray, List.getElem_cons_succ, List.getElem_cons_zero, Act.put, List.setIfInBounds_toArray, List.set_cons_zero, List.set_cons_succ]
  refine wpAnyH_done (by kernel_rfl) ?_ _
  have hb8 := hHeld.1
  clear lta0
  clear lta1
  clear ltx0
  clear ltx1
  obtain ⟨w8, hw8⟩ : ∃ x, x = wq7_2 := ⟨_, rfl⟩
  subst hw8
  have z8 := Lib.hid hb8.size
  replace Ba0 := cell_step Ba0 hb8
  replace Ba1 := cell_step Ba1 hb8
  replace Bx0 := cell_step Bx0 hb8
  replace Bx1 := cell_step Bx1 hb8
  replace P0 := P0.below hb8
  replace P1 := P1.below hb8
  replace W := W.below hb8
  replace X0 := X0.below hb8
  replace X1 := X1.below hb8
  replace G := G.below hb8
  have hB8 := Lib.hid (hB7.out.step hb8)
  clear hB7
  clear hb8
  have lta0 := World.block_lt_of_cell? _ _ Ba0
  simp only at lta0
  have lta1 := World.block_lt_of_cell? _ _ Ba1
  simp only at lta1
  have ltx0 := World.block_lt_of_cell? _ _ Bx0
  simp only at ltx0
  have ltx1 := World.block_lt_of_cell? _ _ Bx1
  simp only at ltx1
  clear Z0
  clear hHeld
  go_wp2_with fail
  refine wp_region_held_drew (S := fun w' => Below w8.heap.size w8 w' ∧ w'.cell? ⟨w5.heap.size, 0, none⟩ = some (.slice (some ⟨gX1, 0, none⟩) n1 n1) ∧ w'.cell? ⟨w.heap.size + 1, 0, none⟩ = some (.slice A1 n1 c1)) (by kernel_rfl) ?_ (fun hHeld => ?_)
  · exact ⟨(Below.refl _ _).drew, Bx1, Ba1⟩
  refine wpAnyH_take (i := 0) (v := ?vr80) rfl (by kernel_rfl) (by kernel_rfl) (by kernel_rfl) (fun _ _ _ h => h) (Or.inl ⟨rfl, ?yr80⟩) (by assumption) ?_
  case yr80 => (intro w hSw; (try dsimp only at hSw); go_simp; first | done | with_reducible rfl)
  simp only [List.getElem_toArray, List.getElem_cons_succ, List.getElem_cons_zero, Act.put, List.setIfInBounds_toArray, List.set_cons_zero, List.set_cons_succ]
  refine wpAnyH_take (i := 1) (v := ?vr81) rfl (by kernel_rfl) (by kernel_rfl) (by kernel_rfl) (fun _ _ _ h => h) (Or.inl ⟨rfl, ?yr81⟩) (by assumption) ?_
  case yr81 => (intro w hSw; (try dsimp only at hSw); go_simp; first | done | with_reducible rfl)
  simp only [List.getElem_toArray, List.getElem_cons_succ, List.getElem_cons_zero, Act.put, List.setIfInBounds_toArray, List.set_cons_zero, List.set_cons_succ]
  refine wpAnyH_ready (rs := [2]) (by kernel_rfl) (by simp) ?_
  refine AllReadyH.cons rfl (fun K hK => ?_) AllReadyH.nil
  go_simp
  refine (toLay_own A1 n1 c1 xs1 _ (P1.below hHeld.1) hn1).mono ?_
  rintro e wq8_1 ⟨gZ1, rfl, Z1, hq8_1⟩
  go_wp2_with fail
  refine hK.out _ _ ?_ (fun hHeld => ?_)
  · exact ⟨hHeld.1.step hq8_1, cell_step hHeld.2.1 hq8_1, cell_step hHeld.2.2 hq8_1⟩
  clear hK K
  try simp only [List.getElem_toArray, List.getElem_cons_succ, List.getElem_cons_zero, Act.put, List.setIfInBounds_toArray, List.set_cons_zero, List.set_cons_succ]
  refine wpAnyH_ready (rs := [3]) (by kernel_rfl) (by simp) ?_
  refine AllReadyH.cons rfl (fun K hK => ?_) AllReadyH.nil
  go_simp
  refine (eqLayS_any _ _ n1 n1 n1 n1 xs1 xs1 _ (X1.srow.below hHeld.1) Z1.srow rfl hn1).mono ?_
  rintro e wq8_2 ⟨rfl, hq8_2⟩
  replace Z1 := Z1.below hq8_2
  go_wp2_with fail
  refine hK.out _ _ ?_ (fun hHeld => ?_)
  · exact ⟨hHeld.1.step hq8_2, cell_step hHeld.2.1 hq8_2, cell_step hHeld.2.2 hq8_2⟩
  clear hK K
  try simp only [List.getElem_toArray, List.getElem_cons_succ, List.getElem_cons_zero, Act.put, List.setIfInBounds_toArray, List.set_cons_zero, List.set_cons_succ]
  refine wpAnyH_take (i := 4) (v := ?vr84) rfl (by kernel_rfl) (by kernel_rfl) (by kernel_rfl) (fun _ _ _ h => h) (Or.inl ⟨rfl, ?yr84⟩) (by assumption) ?_
  case yr84 => (intro w hSw; (try dsimp only at hSw); go_simp; first | done | with_reducible rfl)
  simp only [List.getElem_toArray, List.getElem_cons_succ, List.getElem_cons_zero, Act.put, List.setIfInBounds_toArray, List.set_cons_zero, List.set_cons_succ]
  refine wpAnyH_done (by kernel_rfl) ?_ _
  have hb9 := hHeld.1
  clear lta0
  clear lta1
  clear ltx0
  clear ltx1
  obtain ⟨w9, hw9⟩ : ∃ x, x = wq8_2 := ⟨_, rfl⟩
  subst hw9
  have z9 := Lib.hid hb9.size
  replace Ba0 := cell_step Ba0 hb9
  replace Ba1 := cell_step Ba1 hb9
  replace Bx0 := cell_step Bx0 hb9
  replace Bx1 := cell_step Bx1 hb9
  replace P0 := P0.below hb9
  replace P1 := P1.below hb9
  replace W := W.below hb9
  replace X0 := X0.below hb9
  replace X1 := X1.below hb9
  replace G := G.below hb9
  have hB9 := Lib.hid (hB8.out.step hb9)
  clear hB8
  clear hb9
  have lta0 := World.block_lt_of_cell? _ _ Ba0
  simp only at lta0
  have lta1 := World.block_lt_of_cell? _ _ Ba1
  simp only at lta1
  have ltx0 := World.block_lt_of_cell? _ _ Bx0
  simp only at ltx0
  have ltx1 := World.block_lt_of_cell? _ _ Bx1
  simp only at ltx1
  clear Z1
  clear hHeld
  have owG := Lib.hid G.own
  go_wp2_with fail
  refine (markLayS_any _ n0 n0 (1) xs0 _ _ X0 hn0 (by omega) (by omega)).mono ?_
  rintro e w10 ⟨rfl, hX0, hgr10⟩
  clear lta0
  clear lta1
  clear ltx0
  clear ltx1
  have z10 := Lib.hid hgr10.size
  replace P0 := SRow.above (B := some ⟨gX0, 0, none⟩) P0 PP0.out hgr10 (fun q hq => by have y1 := z1.out; have y2 := z2.out; have y3 := z3.out; have y4 := z4.out; have y5 := z5.out; have y6 := z6.out; have y7 := z7.out; have y8 := z8.out; have y9 := z9.out; have y10 := z10.out; have l0 := owX0.out q hq; have l1 := ltX0.out q hq; (try simp only [World.size_alloc] at *); omega)
  replace P1 := SRow.above (B := some ⟨gX0, 0, none⟩) P1 PP1.out hgr10 (fun q hq => by have y1 := z1.out; have y2 := z2.out; have y3 := z3.out; have y4 := z4.out; have y5 := z5.out; have y6 := z6.out; have y7 := z7.out; have y8 := z8.out; have y9 := z9.out; have y10 := z10.out; have l0 := owX0.out q hq; have l1 := ltX0.out q hq; (try simp only [World.size_alloc] at *); omega)
  replace W := SRow.above (B := some ⟨gX0, 0, none⟩) W WW.out hgr10 (fun q hq => by have y1 := z1.out; have y2 := z2.out; have y3 := z3.out; have y4 := z4.out; have y5 := z5.out; have y6 := z6.out; have y7 := z7.out; have y8 := z8.out; have y9 := z9.out; have y10 := z10.out; have l0 := owX0.out q hq; have l1 := ltX0.out q hq; (try simp only [World.size_alloc] at *); omega)
  replace X1 := ORow.kept (B := some ⟨gX0, 0, none⟩) X1 hgr10 (fun q hq => by have y1 := z1.out; have y2 := z2.out; have y3 := z3.out; have y4 := z4.out; have y5 := z5.out; have y6 := z6.out; have y7 := z7.out; have y8 := z8.out; have y9 := z9.out; have y10 := z10.out; have l0 := owX0.out q hq; have l1 := ltX0.out q hq; (try simp only [World.size_alloc] at *); omega)
  replace G := ORow.kept (B := some ⟨gX0, 0, none⟩) G hgr10 (fun q hq => by have y1 := z1.out; have y2 := z2.out; have y3 := z3.out; have y4 := z4.out; have y5 := z5.out; have y6 := z6.out; have y7 := z7.out; have y8 := z8.out; have y9 := z9.out; have y10 := z10.out; have l0 := owX0.out q hq; have l1 := ltX0.out q hq; (try simp only [World.size_alloc] at *); omega)
  replace Ba0 := cell_grown_ne (B := some ⟨gX0, 0, none⟩) Ba0 hgr10 (fun q hq => by have y1 := z1.out; have y2 := z2.out; have y3 := z3.out; have y4 := z4.out; have y5 := z5.out; have y6 := z6.out; have y7 := z7.out; have y8 := z8.out; have y9 := z9.out; have y10 := z10.out; have l0 := owX0.out q hq; have l1 := ltX0.out q hq; (try simp only [World.size_alloc] at *); omega)
  replace Ba1 := cell_grown_ne (B := some ⟨gX0, 0, none⟩) Ba1 hgr10 (fun q hq => by have y1 := z1.out; have y2 := z2.out; have y3 := z3.out; have y4 := z4.out; have y5 := z5.out; have y6 := z6.out; have y7 := z7.out; have y8 := z8.out; have y9 := z9.out; have y10 := z10.out; have l0 := owX0.out q hq; have l1 := ltX0.out q hq; (try simp only [World.size_alloc] at *); omega)
  replace Bx0 := cell_grown_ne (B := some ⟨gX0, 0, none⟩) Bx0 hgr10 (fun q hq => by have y1 := z1.out; have y2 := z2.out; have y3 := z3.out; have y4 := z4.out; have y5 := z5.out; have y6 := z6.out; have y7 := z7.out; have y8 := z8.out; have y9 := z9.out; have y10 := z10.out; have l0 := owX0.out q hq; have l1 := ltX0.out q hq; (try simp only [World.size_alloc] at *); omega)
  replace Bx1 := cell_grown_ne (B := some ⟨gX0, 0, none⟩) Bx1 hgr10 (fun q hq => by have y1 := z1.out; have y2 := z2.out; have y3 := z3.out; have y4 := z4.out; have y5 := z5.out; have y6 := z6.out; have y7 := z7.out; have y8 := z8.out; have y9 := z9.out; have y10 := z10.out; have l0 := owX0.out q hq; have l1 := ltX0.out q hq; (try simp only [World.size_alloc] at *); omega)
  have hB10 := Lib.hid (below_grown (A := some ⟨gX0, 0, none⟩) hB9.out (hB9.out.size) hgr10 (fun q hq => by have y1 := z1.out; have y2 := z2.out; have y3 := z3.out; have y4 := z4.out; have y5 := z5.out; have y6 := z6.out; have y7 := z7.out; have y8 := z8.out; have y9 := z9.out; have y10 := z10.out; have l0 := owX0.out q hq; have l1 := ltX0.out q hq; (try simp only [World.size_alloc] at *); omega))
  clear hB9 hgr10
  have lta0 := World.block_lt_of_cell? _ _ Ba0
  simp only at lta0
  have lta1 := World.block_lt_of_cell? _ _ Ba1
  simp only at lta1
  have ltx0 := World.block_lt_of_cell? _ _ Bx0
  simp only at ltx0
  have ltx1 := World.block_lt_of_cell? _ _ Bx1
  simp only at ltx1
  clear hX0 X0
  go_wp2_with fail
  refine (markLayS_any _ n1 n1 (1 + (n0 : Int)) xs1 _ _ X1 hn1 (by omega) (by omega)).mono ?_
  rintro e w11 ⟨rfl, hX1, hgr11⟩
  clear lta0
  clear lta1
  clear ltx0
  clear ltx1
  have z11 := Lib.hid hgr11.size
  replace P0 := SRow.above (B := some ⟨gX1, 0, none⟩) P0 PP0.out hgr11 (fun q hq => by have y1 := z1.out; have y2 := z2.out; have y3 := z3.out; have y4 := z4.out; have y5 := z5.out; have y6 := z6.out; have y7 := z7.out; have y8 := z8.out; have y9 := z9.out; have y10 := z10.out; have y11 := z11.out; have l0 := owX1.out q hq; have l1 := ltX1.out q hq; (try simp only [World.size_alloc] at *); omega)
  replace P1 := SRow.above (B := some ⟨gX1, 0, none⟩) P1 PP1.out hgr11 (fun q hq => by have y1 := z1.out; have y2 := z2.out; have y3 := z3.out; have y4 := z4.out; have y5 := z5.out; have y6 := z6.out; have y7 := z7.out; have y8 := z8.out; have y9 := z9.out; have y10 := z10.out; have y11 := z11.out; have l0 := owX1.out q hq; have l1 := ltX1.out q hq; (try simp only [World.size_alloc] at *); omega)
  replace W := SRow.above (B := some ⟨gX1, 0, none⟩) W WW.out hgr11 (fun q hq => by have y1 := z1.out; have y2 := z2.out; have y3 := z3.out; have y4 := z4.out; have y5 := z5.out; have y6 := z6.out; have y7 := z7.out; have y8 := z8.out; have y9 := z9.out; have y10 := z10.out; have y11 := z11.out; have l0 := owX1.out q hq; have l1 := ltX1.out q hq; (try simp only [World.size_alloc] at *); omega)
  replace G := ORow.kept (B := some ⟨gX1, 0, none⟩) G hgr11 (fun q hq => by have y1 := z1.out; have y2 := z2.out; have y3 := z3.out; have y4 := z4.out; have y5 := z5.out; have y6 := z6.out; have y7 := z7.out; have y8 := z8.out; have y9 := z9.out; have y10 := z10.out; have y11 := z11.out; have l0 := owX1.out q hq; have l1 := ltX1.out q hq; (try simp only [World.size_alloc] at *); omega)
  replace Ba0 := cell_grown_ne (B := some ⟨gX1, 0, none⟩) Ba0 hgr11 (fun q hq => by have y1 := z1.out; have y2 := z2.out; have y3 := z3.out; have y4 := z4.out; have y5 := z5.out; have y6 := z6.out; have y7 := z7.out; have y8 := z8.out; have y9 := z9.out; have y10 := z10.out; have y11 := z11.out; have l0 := owX1.out q hq; have l1 := ltX1.out q hq; (try simp only [World.size_alloc] at *); omega)
  replace Ba1 := cell_grown_ne (B := some ⟨gX1, 0, none⟩) Ba1 hgr11 (fun q hq => by have y1 := z1.out; have y2 := z2.out; have y3 := z3.out; have y4 := z4.out; have y5 := z5.out; have y6 := z6.out; have y7 := z7.out; have y8 := z8.out; have y9 := z9.out; have y10 := z10.out; have y11 := z11.out; have l0 := owX1.out q hq; have l1 := ltX1.out q hq; (try simp only [World.size_alloc] at *); omega)
  replace Bx0 := cell_grown_ne (B := some ⟨gX1, 0, none⟩) Bx0 hgr11 (fun q hq => by have y1 := z1.out; have y2 := z2.out; have y3 := z3.out; have y4 := z4.out; have y5 := z5.out; have y6 := z6.out; have y7 := z7.out; have y8 := z8.out; have y9 := z9.out; have y10 := z10.out; have y11 := z11.out; have l0 := owX1.out q hq; have l1 := ltX1.out q hq; (try simp only [World.size_alloc] at *); omega)
  replace Bx1 := cell_grown_ne (B := some ⟨gX1, 0, none⟩) Bx1 hgr11 (fun q hq => by have y1 := z1.out; have y2 := z2.out; have y3 := z3.out; have y4 := z4.out; have y5 := z5.out; have y6 := z6.out; have y7 := z7.out; have y8 := z8.out; have y9 := z9.out; have y10 := z10.out; have y11 := z11.out; have l0 := owX1.out q hq; have l1 := ltX1.out q hq; (try simp only [World.size_alloc] at *); omega)
  have hB11 := Lib.hid (below_grown (A := some ⟨gX1, 0, none⟩) hB10.out (hB10.out.size) hgr11 (fun q hq => by have y1 := z1.out; have y2 := z2.out; have y3 := z3.out; have y4 := z4.out; have y5 := z5.out; have y6 := z6.out; have y7 := z7.out; have y8 := z8.out; have y9 := z9.out; have y10 := z10.out; have y11 := z11.out; have l0 := owX1.out q hq; have l1 := ltX1.out q hq; (try simp only [World.size_alloc] at *); omega))
  clear hB10 hgr11
  have lta0 := World.block_lt_of_cell? _ _ Ba0
  simp only at lta0
  have lta1 := World.block_lt_of_cell? _ _ Ba1
  simp only at lta1
  have ltx0 := World.block_lt_of_cell? _ _ Bx0
  simp only at ltx0
  have ltx1 := World.block_lt_of_cell? _ _ Bx1
  simp only at ltx1
  clear hX1 X1
  have hkk : decide (1 + (n0 : Int) + (n1 : Int) < 0) = false := decide_eq_false (by omega)
  go_wp2_with fail
  refine (eqStrS_any _ _ nG nW cG cW _ _ _ G.srow W rfl hnG).mono ?_
  rintro e w12 ⟨rfl, hb12⟩
  clear lta0
  clear lta1
  clear ltx0
  clear ltx1
  have z12 := Lib.hid hb12.size
  replace Ba0 := cell_step Ba0 hb12
  replace Ba1 := cell_step Ba1 hb12
  replace Bx0 := cell_step Bx0 hb12
  replace Bx1 := cell_step Bx1 hb12
  replace P0 := P0.below hb12
  replace P1 := P1.below hb12
  replace W := W.below hb12
  replace G := G.below hb12
  have hB12 := Lib.hid (hB11.out.step hb12)
  clear hB11
  clear hb12
  have lta0 := World.block_lt_of_cell? _ _ Ba0
  simp only at lta0
  have lta1 := World.block_lt_of_cell? _ _ Ba1
  simp only at lta1
  have ltx0 := World.block_lt_of_cell? _ _ Bx0
  simp only at ltx0
  have ltx1 := World.block_lt_of_cell? _ _ Bx1
  simp only at ltx1
  go_wp2_with fail
  refine (markStrS_any _ nG cG 1 _ _ _ G hnG (by omega) (by omega)).mono ?_
  rintro e w13 ⟨rfl, M, hgr13⟩
  clear lta0
  clear lta1
  clear ltx0
  clear ltx1
  have z13 := Lib.hid hgr13.size
  replace P0 := SRow.above (B := AG) P0 PP0.out hgr13 (fun q hq => by have y1 := z1.out; have y2 := z2.out; have y3 := z3.out; have y4 := z4.out; have y5 := z5.out; have y6 := z6.out; have y7 := z7.out; have y8 := z8.out; have y9 := z9.out; have y10 := z10.out; have y11 := z11.out; have y12 := z12.out; have y13 := z13.out; have l0 := owG.out q hq; have l1 := ltG.out q hq; (try simp only [World.size_alloc] at *); omega)
  replace P1 := SRow.above (B := AG) P1 PP1.out hgr13 (fun q hq => by have y1 := z1.out; have y2 := z2.out; have y3 := z3.out; have y4 := z4.out; have y5 := z5.out; have y6 := z6.out; have y7 := z7.out; have y8 := z8.out; have y9 := z9.out; have y10 := z10.out; have y11 := z11.out; have y12 := z12.out; have y13 := z13.out; have l0 := owG.out q hq; have l1 := ltG.out q hq; (try simp only [World.size_alloc] at *); omega)
  replace W := SRow.above (B := AG) W WW.out hgr13 (fun q hq => by have y1 := z1.out; have y2 := z2.out; have y3 := z3.out; have y4 := z4.out; have y5 := z5.out; have y6 := z6.out; have y7 := z7.out; have y8 := z8.out; have y9 := z9.out; have y10 := z10.out; have y11 := z11.out; have y12 := z12.out; have y13 := z13.out; have l0 := owG.out q hq; have l1 := ltG.out q hq; (try simp only [World.size_alloc] at *); omega)
  replace Ba0 := cell_grown_ne (B := AG) Ba0 hgr13 (fun q hq => by have y1 := z1.out; have y2 := z2.out; have y3 := z3.out; have y4 := z4.out; have y5 := z5.out; have y6 := z6.out; have y7 := z7.out; have y8 := z8.out; have y9 := z9.out; have y10 := z10.out; have y11 := z11.out; have y12 := z12.out; have y13 := z13.out; have l0 := owG.out q hq; have l1 := ltG.out q hq; (try simp only [World.size_alloc] at *); omega)
  replace Ba1 := cell_grown_ne (B := AG) Ba1 hgr13 (fun q hq => by have y1 := z1.out; have y2 := z2.out; have y3 := z3.out; have y4 := z4.out; have y5 := z5.out; have y6 := z6.out; have y7 := z7.out; have y8 := z8.out; have y9 := z9.out; have y10 := z10.out; have y11 := z11.out; have y12 := z12.out; have y13 := z13.out; have l0 := owG.out q hq; have l1 := ltG.out q hq; (try simp only [World.size_alloc] at *); omega)
  replace Bx0 := cell_grown_ne (B := AG) Bx0 hgr13 (fun q hq => by have y1 := z1.out; have y2 := z2.out; have y3 := z3.out; have y4 := z4.out; have y5 := z5.out; have y6 := z6.out; have y7 := z7.out; have y8 := z8.out; have y9 := z9.out; have y10 := z10.out; have y11 := z11.out; have y12 := z12.out; have y13 := z13.out; have l0 := owG.out q hq; have l1 := ltG.out q hq; (try simp only [World.size_alloc] at *); omega)
  replace Bx1 := cell_grown_ne (B := AG) Bx1 hgr13 (fun q hq => by have y1 := z1.out; have y2 := z2.out; have y3 := z3.out; have y4 := z4.out; have y5 := z5.out; have y6 := z6.out; have y7 := z7.out; have y8 := z8.out; have y9 := z9.out; have y10 := z10.out; have y11 := z11.out; have y12 := z12.out; have y13 := z13.out; have l0 := owG.out q hq; have l1 := ltG.out q hq; (try simp only [World.size_alloc] at *); omega)
  have hB13 := Lib.hid (below_grown (A := AG) hB12.out (hB12.out.size) hgr13 (fun q hq => by have y1 := z1.out; have y2 := z2.out; have y3 := z3.out; have y4 := z4.out; have y5 := z5.out; have y6 := z6.out; have y7 := z7.out; have y8 := z8.out; have y9 := z9.out; have y10 := z10.out; have y11 := z11.out; have y12 := z12.out; have y13 := z13.out; have l0 := owG.out q hq; have l1 := ltG.out q hq; (try simp only [World.size_alloc] at *); omega))
  clear hB12 hgr13
  have lta0 := World.block_lt_of_cell? _ _ Ba0
  simp only at lta0
  have lta1 := World.block_lt_of_cell? _ _ Ba1
  simp only at lta1
  have ltx0 := World.block_lt_of_cell? _ _ Bx0
  simp only at ltx0
  have ltx1 := World.block_lt_of_cell? _ _ Bx1
  simp only at ltx1
  clear G
  replace M := M.srow
  have hqq : decide (1 + (nG : Int) < 0) = false := decide_eq_false (by omega)
  go_wp2_with fail
  refine (heldStrS_any _ nG cG 1 _ M hnG (by omega) (by omega)).mono ?_
  rintro e w14 ⟨rfl, hb14⟩
  clear lta0
  clear lta1
  clear ltx0
  clear ltx1
  have z14 := Lib.hid hb14.size
  replace Ba0 := cell_step Ba0 hb14
  replace Ba1 := cell_step Ba1 hb14
  replace Bx0 := cell_step Bx0 hb14
  replace Bx1 := cell_step Bx1 hb14
  replace P0 := P0.below hb14
  replace P1 := P1.below hb14
  replace W := W.below hb14
  replace M := M.below hb14
  have hB14 := Lib.hid (hB13.out.step hb14)
  clear hB13
  clear hb14
  have lta0 := World.block_lt_of_cell? _ _ Ba0
  simp only at lta0
  have lta1 := World.block_lt_of_cell? _ _ Ba1
  simp only at lta1
  have ltx0 := World.block_lt_of_cell? _ _ Bx0
  simp only at ltx0
  have ltx1 := World.block_lt_of_cell? _ _ Bx1
  simp only at ltx1
  go_wp2_with fail
  refine wp_region_held_drew (S := fun w' => Below w14.heap.size w14 w' ∧ w'.cell? ⟨w.heap.size, 0, none⟩ = some (.slice A0 n0 c0) ∧ w'.cell? ⟨w.heap.size + 1, 0, none⟩ = some (.slice A1 n1 c1)) (by kernel_rfl) ?_ (fun hHeld => ?_)
  · exact ⟨(Below.refl _ _).drew, Ba0, Ba1⟩
  refine wpAnyH_take (i := 0) (v := ?vr140) rfl (by kernel_rfl) (by kernel_rfl) (by kernel_rfl) (fun _ _ _ h => h) (Or.inl ⟨rfl, ?yr140⟩) (by assumption) ?_
  case yr140 => (intro w hSw; (try dsimp only at hSw); go_simp; first | done | with_reducible rfl)
  simp only [List.getElem_toArray, List.getElem_cons_succ, List.getElem_cons_zero, Act.put, List.setIfInBounds_toArray, List.set_cons_zero, List.set_cons_succ]
  refine wpAnyH_take (i := 2) (v := ?vr142) rfl (by kernel_rfl) (by kernel_rfl) (by kernel_rfl) (fun _ _ _ h => h) (Or.inl ⟨rfl, ?yr142⟩) (by assumption) ?_
  case yr142 => (intro w hSw; (try dsimp only at hSw); go_simp; first | done | with_reducible rfl)
  simp only [List.getElem_toArray, List.getElem_cons_succ, List.getElem_cons_zero, Act.put, List.setIfInBounds_toArray, List.set_cons_zero, List.set_cons_succ]
  refine wpAnyH_ready (rs := [1]) (by kernel_rfl) (by simp) ?_
  refine AllReadyH.cons rfl (fun K hK => ?_) AllReadyH.nil
  go_simp
  refine (toLay_own A0 n0 c0 xs0 _ (P0.below hHeld.1) hn0).mono ?_
  rintro e wq14_1 ⟨gY0, rfl, Y0, hq14_1⟩
  go_wp2_with fail
  refine hK.out _ _ ?_ (fun hHeld => ?_)
  · exact ⟨hHeld.1.step hq14_1, cell_step hHeld.2.1 hq14_1, cell_step hHeld.2.2 hq14_1⟩
  clear hK K
  try simp only [List.getElem_toArray, List.getElem_cons_succ, List.getElem_cons_zero, Act.put, List.setIfInBounds_toArray, List.set_cons_zero, List.set_cons_succ]
  refine wpAnyH_ready (rs := [3]) (by kernel_rfl) (by simp) ?_
  refine AllReadyH.cons rfl (fun K hK => ?_) AllReadyH.nil
  go_simp
  refine (toLay_own A1 n1 c1 xs1 _ (P1.below hHeld.1) hn1).mono ?_
  rintro e wq14_2 ⟨gY1, rfl, Y1, hq14_2⟩
  replace Y0 := Y0.below hq14_2
  go_wp2_with fail
  refine hK.out _ _ ?_ (fun hHeld => ?_)
  · exact ⟨hHeld.1.step hq14_2, cell_step hHeld.2.1 hq14_2, cell_step hHeld.2.2 hq14_2⟩
  clear hK K
  try simp only [List.getElem_toArray, List.getElem_cons_succ, List.getElem_cons_zero, Act.put, List.setIfInBounds_toArray, List.set_cons_zero, List.set_cons_succ]
  refine wpAnyH_ready (rs := [4]) (by kernel_rfl) (by simp) ?_
  refine AllReadyH.cons rfl (fun K hK => ?_) AllReadyH.nil
  go_simp
  refine (ex_any _ n0 n0 xs0 _ n1 n1 xs1 _ Y0.srow hn0 hsm0.out Y1.srow hn1 hsm1.out (Nat.le_refl _) (Nat.le_refl _)).mono ?_
  rintro e wq14_3 ⟨AH, nH, cH, rfl, hnH, H, hq14_3⟩
  replace Y0 := Y0.below hq14_3
  replace Y1 := Y1.below hq14_3
  go_wp2_with fail
  refine hK.out _ _ ?_ (fun hHeld => ?_)
  · exact ⟨hHeld.1.step hq14_3, cell_step hHeld.2.1 hq14_3, cell_step hHeld.2.2 hq14_3⟩
  clear hK K
  try simp only [List.getElem_toArray, List.getElem_cons_succ, List.getElem_cons_zero, Act.put, List.setIfInBounds_toArray, List.set_cons_zero, List.set_cons_succ]
  refine wpAnyH_take (i := 5) (v := ?vr145) rfl (by kernel_rfl) (by kernel_rfl) (by kernel_rfl) (fun _ _ _ h => h) (Or.inl ⟨rfl, ?yr145⟩) (by assumption) ?_
  case yr145 => (intro w hSw; (try dsimp only at hSw); go_simp; first | done | with_reducible rfl)
  simp only [List.getElem_toArray, List.getElem_cons_succ, List.getElem_cons_zero, Act.put, List.setIfInBounds_toArray, List.set_cons_zero, List.set_cons_succ]
  refine wpAnyH_take (i := 6) (v := ?vr146) rfl (by kernel_rfl) (by kernel_rfl) (by kernel_rfl) (fun _ _ _ h => h) (Or.inl ⟨rfl, ?yr146⟩) (by assumption) ?_
  case yr146 => (intro w hSw; (try dsimp only at hSw); go_simp; first | done | with_reducible rfl)
  simp only [List.getElem_toArray, List.getElem_cons_succ, List.getElem_cons_zero, Act.put, List.setIfInBounds_toArray, List.set_cons_zero, List.set_cons_succ]
  refine wpAnyH_take (i := 7) (v := ?vr147) rfl (by kernel_rfl) (by kernel_rfl) (by kernel_rfl) (fun _ _ _ h => h) (Or.inl ⟨rfl, ?yr147⟩) (by assumption) ?_
  case yr147 => (intro w hSw; (try dsimp only at hSw); go_simp; first | done | with_reducible rfl)
  simp only [List.getElem_toArray, List.getElem_cons_succ, List.getElem_cons_zero, Act.put, List.setIfInBounds_toArray, List.set_cons_zero, List.set_cons_succ]
  refine wpAnyH_take (i := 8) (v := ?vr148) rfl (by kernel_rfl) (by kernel_rfl) (by kernel_rfl) (fun _ _ _ h => h) (Or.inl ⟨rfl, ?yr148⟩) (by assumption) ?_
  case yr148 => (intro w hSw; (try dsimp only at hSw); go_simp; first | done | with_reducible rfl)
  simp only [List.getElem_toArray, List.getElem_cons_succ, List.getElem_cons_zero, Act.put, List.setIfInBounds_toArray, List.set_cons_zero, List.set_cons_succ]
  refine wpAnyH_take (i := 9) (v := ?vr149) rfl (by kernel_rfl) (by kernel_rfl) (by kernel_rfl) (fun _ _ _ h => h) (Or.inl ⟨rfl, ?yr149⟩) (by assumption) ?_
  case yr149 => (intro w hSw; (try dsimp only at hSw); go_simp; first | done | with_reducible rfl)
  simp only [List.getElem_toArray, List.getElem_cons_succ, List.getElem_cons_zero, Act.put, List.setIfInBounds_toArray, List.set_cons_zero, List.set_cons_succ]
  refine wpAnyH_done (by kernel_rfl) ?_ _
  have hb15 := hHeld.1
  clear lta0
  clear lta1
  clear ltx0
  clear ltx1
  obtain ⟨w15, hw15⟩ : ∃ x, x = wq14_3 := ⟨_, rfl⟩
  subst hw15
  have z15 := Lib.hid hb15.size
  replace Ba0 := cell_step Ba0 hb15
  replace Ba1 := cell_step Ba1 hb15
  replace Bx0 := cell_step Bx0 hb15
  replace Bx1 := cell_step Bx1 hb15
  replace P0 := P0.below hb15
  replace P1 := P1.below hb15
  replace W := W.below hb15
  replace M := M.below hb15
  have hB15 := Lib.hid (hB14.out.step hb15)
  clear hB14
  clear hb15
  have lta0 := World.block_lt_of_cell? _ _ Ba0
  simp only at lta0
  have lta1 := World.block_lt_of_cell? _ _ Ba1
  simp only at lta1
  have ltx0 := World.block_lt_of_cell? _ _ Bx0
  simp only at ltx0
  have ltx1 := World.block_lt_of_cell? _ _ Bx1
  simp only at ltx1
  clear Y0
  clear Y1
  go_wp2_with fail
  refine (eqStrS_any _ _ nH nW cH cW _ _ _ H.srow W rfl hnH).mono ?_
  rintro e w16 ⟨rfl, hb16⟩
  clear lta0
  clear lta1
  clear ltx0
  clear ltx1
  have z16 := Lib.hid hb16.size
  replace Ba0 := cell_step Ba0 hb16
  replace Ba1 := cell_step Ba1 hb16
  replace Bx0 := cell_step Bx0 hb16
  replace Bx1 := cell_step Bx1 hb16
  replace P0 := P0.below hb16
  replace P1 := P1.below hb16
  replace W := W.below hb16
  replace M := M.below hb16
  replace H := H.below hb16
  have hB16 := Lib.hid (hB15.out.step hb16)
  clear hB15
  clear hb16
  have lta0 := World.block_lt_of_cell? _ _ Ba0
  simp only at lta0
  have lta1 := World.block_lt_of_cell? _ _ Ba1
  simp only at lta1
  have ltx0 := World.block_lt_of_cell? _ _ Bx0
  simp only at ltx0
  have ltx1 := World.block_lt_of_cell? _ _ Bx1
  simp only at ltx1
  go_wp2_with fail
  refine (heldStrS_any _ nG cG 1 _ M hnG (by omega) (by omega)).mono ?_
  rintro e w17 ⟨rfl, hb17⟩
  clear lta0
  clear lta1
  clear ltx0
  clear ltx1
  have z17 := Lib.hid hb17.size
  replace Ba0 := cell_step Ba0 hb17
  replace Ba1 := cell_step Ba1 hb17
  replace Bx0 := cell_step Bx0 hb17
  replace Bx1 := cell_step Bx1 hb17
  replace P0 := P0.below hb17
  replace P1 := P1.below hb17
  replace W := W.below hb17
  replace M := M.below hb17
  replace H := H.below hb17
  have hB17 := Lib.hid (hB16.out.step hb17)
  clear hB16
  clear hb17
  have lta0 := World.block_lt_of_cell? _ _ Ba0
  simp only at lta0
  have lta1 := World.block_lt_of_cell? _ _ Ba1
  simp only at lta1
  have ltx0 := World.block_lt_of_cell? _ _ Bx0
  simp only at ltx0
  have ltx1 := World.block_lt_of_cell? _ _ Bx1
  simp only at ltx1
  have hw := hB17
  clear hB17
  go_wp2
  go_ret
  exact ⟨rfl, hw.out⟩
end Go.Proofs.Yticggclpaalhgaa
