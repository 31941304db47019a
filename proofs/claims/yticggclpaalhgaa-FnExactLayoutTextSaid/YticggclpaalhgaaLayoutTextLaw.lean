/- The law FnExactLayoutText as one call: for every input it returns true. -/
import Derived.Test.YticggclpaalhgaaLtx
import Derived.Test.YticggclpaalhgaaLayD
import Derived.Test.YticggclpaalhgaaLayL
import Derived.Deep.RegionHeld3
namespace Go.Proofs.Yticggclpaalhgaa
open Go.RowKit Go.ChangeShapes Go.WideShapes Go.Deep
set_option linter.unusedVariables false
set_option linter.unusedSimpArgs false

set_option maxRecDepth 100000 in
set_option maxHeartbeats 4000000 in
theorem fnExactLayoutText_any (A0 : Option Addr) (n0 c0 : Nat) (xs0 : List ByteArray) (w : World) (h0 : n0 ≤ maxLen ∧ Strs w A0 n0 xs0 ∧ ∀ x ∈ xs0, strGood x) :
    Calls Try.prog 13 #[.agg #[.slice A0 n0 c0]] w fun e w' => e = .returned (.bool true) ∧ Below w.heap.size w w' := by
  obtain ⟨hm0, P0, hg0⟩ := h0
  have hm0' := hm0
  unfold maxLen at hm0'
  replace hg0 := Lib.hid hg0
  have PP0 := Lib.hid P0
  go_enter Try.func13, Try.ntmps13
  go_wp2_with fail
  refine (szLayS_any A0 n0 c0 1048576 xs0 _ (P0.below (below_a1 _ _)) hg0.out (by omega) (by omega) hm0).mono ?_
  rintro e w1 ⟨l0, rfl, hla0, hlb0, hlc0, hb1⟩
  have Ba0 : w1.cell? ⟨w.heap.size, 0, none⟩ = some (.slice A0 n0 c0) := cell_step (cell_new (by simp) rfl) hb1
  have hb1' := (below_a1 _ _).step hb1
  have z1 := Lib.hid hb1.size
  clear hb1
  have hb1 := hb1'
  clear hb1'
  replace P0 := P0.below hb1
  have hB1 := Lib.hid hb1
  clear hb1
  have lta0 := World.block_lt_of_cell? _ _ Ba0
  simp only at lta0
  by_cases hbs0 : l0 < 0
  · go_wp2
    go_ret
    exact ⟨rfl, hB1.out⟩
  obtain ⟨hlen0, hsm0⟩ := hlc0 (by omega)
  have hn0 : n0 ≤ 1048576 := by omega
  replace hsm0 := Lib.hid hsm0
  clear hlc0
  go_wp2_with fail
  refine (toLay_own A0 n0 c0 xs0 _ P0 hn0).mono ?_
  rintro e w2 ⟨gS0, rfl, S0, hb2⟩
  clear lta0
  have z2 := Lib.hid hb2.size
  replace Ba0 := cell_step Ba0 hb2
  replace P0 := P0.below hb2
  have hB2 := Lib.hid (hB1.out.step hb2)
  clear hB1
  clear hb2
  have lta0 := World.block_lt_of_cell? _ _ Ba0
  simp only at lta0
  go_wp2_with fail
  refine (ltx_spec _ n0 n0 xs0 _ S0.srow hn0 hsm0.out).mono ?_
  rintro e w3 ⟨rfl, hb3⟩
  clear lta0
  have z3 := Lib.hid hb3.size
  replace Ba0 := cell_step Ba0 hb3
  replace P0 := P0.below hb3
  replace S0 := S0.below hb3
  have hB3 := Lib.hid (hB2.out.step hb3)
  clear hB2
  clear hb3
  have lta0 := World.block_lt_of_cell? _ _ Ba0
  simp only at lta0
  clear S0
  go_wp2_with fail
  refine (toLay_own A0 n0 c0 xs0 _ P0 hn0).mono ?_
  rintro e w4 ⟨gX0, rfl, X0, hb4⟩
  clear lta0
  have z4 := Lib.hid hb4.size
  replace Ba0 := cell_step Ba0 hb4
  replace P0 := P0.below hb4
  have hB4 := Lib.hid (hB3.out.step hb4)
  clear hB3
  clear hb4
  have lta0 := World.block_lt_of_cell? _ _ Ba0
  simp only at lta0
  have ltX0 := Lib.hid (X0.lt)
  have owX0 := Lib.hid (X0.own)
  go_wp2_with fail
  refine (ltx_impl _ n0 n0 xs0 _ (X0.below (below_a1 _ _)).srow hn0 hsm0.out).mono ?_
  rintro e w5 ⟨rfl, hb5⟩
  clear lta0
  have Bx0 : w5.cell? ⟨w4.heap.size, 0, none⟩ = some (.slice (some ⟨gX0, 0, none⟩) n0 n0) := cell_step (cell_new (by simp) rfl) hb5
  have hb5' := (below_a1 _ _).step hb5
  have z5 := Lib.hid hb5.size
  clear hb5
  have hb5 := hb5'
  clear hb5'
  replace Ba0 := cell_step Ba0 hb5
  replace P0 := P0.below hb5
  replace X0 := X0.below hb5
  have hB5 := Lib.hid (hB4.out.step hb5)
  clear hB4
  clear hb5
  have lta0 := World.block_lt_of_cell? _ _ Ba0
  simp only at lta0
  have ltx0 := World.block_lt_of_cell? _ _ Bx0
  simp only at ltx0
  go_wp2_with fail
  refine wp_region_held_drew (S := fun w' => Below w5.heap.size w5 w' ∧ w'.cell? ⟨w4.heap.size, 0, none⟩ = some (.slice (some ⟨gX0, 0, none⟩) n0 n0) ∧ w'.cell? ⟨w.heap.size, 0, none⟩ = some (.slice A0 n0 c0)) (by kernel_rfl) ?_ (fun hHeld => ?_)
  · exact ⟨(Below.refl _ _).drew, Bx0, Ba0⟩
  refine wpAnyH_take (i := 0) (v := ?vr50) rfl (by kernel_rfl) (by kernel_rfl) (by kernel_rfl) (fun _ _ _ h => h) (Or.inl ⟨rfl, ?yr50⟩) (by assumption) ?_
  case yr50 => (intro w hSw; (try dsimp only at hSw); go_simp; first | done | with_reducible rfl)
  simp only [List.getElem_toArray, List.getElem_cons_succ, List.getElem_cons_zero, Act.put, List.setIfInBounds_toArray, List.set_cons_zero, List.set_cons_succ]
  refine wpAnyH_take (i := 1) (v := ?vr51) rfl (by kernel_rfl) (by kernel_rfl) (by kernel_rfl) (fun _ _ _ h => h) (Or.inl ⟨rfl, ?yr51⟩) (by assumption) ?_
  case yr51 => (intro w hSw; (try dsimp only at hSw); go_simp; first | done | with_reducible rfl)
  simp only [List.getElem_toArray, List.getElem_cons_succ, List.getElem_cons_zero, Act.put, List.setIfInBounds_toArray, List.set_cons_zero, List.set_cons_succ]
  refine wpAnyH_ready (rs := [2]) (by kernel_rfl) (by simp) ?_
  refine AllReadyH.cons rfl (fun K hK => ?_) AllReadyH.nil
  go_simp
  refine (toLay_own A0 n0 c0 xs0 _ (P0.below hHeld.1) hn0).mono ?_
  rintro e wq5_1 ⟨gZ0, rfl, Z0, hq5_1⟩
  go_wp2_with fail
  refine hK.out _ _ ?_ (fun hHeld => ?_)
  · exact ⟨hHeld.1.step hq5_1, cell_step hHeld.2.1 hq5_1, cell_step hHeld.2.2 hq5_1⟩
  clear hK K
  try simp only [List.getElem_toArray, List.getElem_cons_succ, List.getElem_cons_zero, Act.put, List.setIfInBounds_toArray, List.set_cons_zero, List.set_cons_succ]
  refine wpAnyH_ready (rs := [3]) (by kernel_rfl) (by simp) ?_
  refine AllReadyH.cons rfl (fun K hK => ?_) AllReadyH.nil
  go_simp
  refine (eqLayS_any _ _ n0 n0 n0 n0 xs0 xs0 _ (X0.srow.below hHeld.1) Z0.srow rfl hn0).mono ?_
  rintro e wq5_2 ⟨rfl, hq5_2⟩
  replace Z0 := Z0.below hq5_2
  go_wp2_with fail
  refine hK.out _ _ ?_ (fun hHeld => ?_)
  · exact ⟨hHeld.1.step hq5_2, cell_step hHeld.2.1 hq5_2, cell_step hHeld.2.2 hq5_2⟩
  clear hK K
  try simp only [List.getElem_toArray, List.getElem_cons_succ, List.getElem_cons_zero, Act.put, List.setIfInBounds_toArray, List.set_cons_zero, List.set_cons_succ]
  refine wpAnyH_take (i := 4) (v := ?vr54) rfl (by kernel_rfl) (by kernel_rfl) (by kernel_rfl) (fun _ _ _ h => h) (Or.inl ⟨rfl, ?yr54⟩) (by assumption) ?_
  case yr54 => (intro w hSw; (try dsimp only at hSw); go_simp; first | done | with_reducible rfl)
  simp only [List.getElem_toArray, List.getElem_cons_succ, List.getElem_cons_zero, Act.put, List.setIfInBounds_toArray, List.set_cons_zero, List.set_cons_succ]
  refine wpAnyH_done (by kernel_rfl) ?_ _
  have hb6 := hHeld.1
  clear lta0
  clear ltx0
  obtain ⟨w6, hw6⟩ : ∃ x, x = wq5_2 := ⟨_, rfl⟩
  subst hw6
  have z6 := Lib.hid hb6.size
  replace Ba0 := cell_step Ba0 hb6
  replace Bx0 := cell_step Bx0 hb6
  replace P0 := P0.below hb6
  replace X0 := X0.below hb6
  have hB6 := Lib.hid (hB5.out.step hb6)
  clear hB5
  clear hb6
  have lta0 := World.block_lt_of_cell? _ _ Ba0
  simp only at lta0
  have ltx0 := World.block_lt_of_cell? _ _ Bx0
  simp only at ltx0
  clear Z0
  clear hHeld
  have hw := hB6
  clear hB6
  go_wp2
  go_ret
  exact ⟨rfl, hw.out⟩
end Go.Proofs.Yticggclpaalhgaa
