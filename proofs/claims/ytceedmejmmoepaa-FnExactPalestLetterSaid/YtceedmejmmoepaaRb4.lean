/- Ribbons: the model's shade of a stroke. -/
import Derived.Test.YtceedmejmmoepaaRb3
import Derived.Deep.RegionHeld3
namespace Go.Proofs.Ytceedmejmmoepaa
open Go.RowKit Go.ChangeShapes Go.WideShapes Go.Deep
set_option linter.unusedVariables false
set_option linter.unusedSimpArgs false

theorem spN_lt (S k : Nat) (hS : 2 ≤ S) : spN S k < S := by
  have hlt : k % (2 * (S - 1)) < 2 * (S - 1) := Nat.mod_lt _ (by omega)
  unfold spN
  split <;> omega
set_option maxRecDepth 100000 in
set_option maxHeartbeats 2400000 in
theorem shade14 (r : RibbonD) (hok : rbB r = true) (n : Nat) (hn : n ≤ 200000) {v : Int} (hv : shadeV r n = v) (w : World) :
    Calls Try.prog 39 #[.agg #[.int .i64 r.spots, .int .i64 r.ink, .int .i64 r.takes], .int .i64 (n : Int)] w fun e w' => e = .returned (.int .i64 v) ∧ Below w.heap.size w w' := by
  have hsp := Lib.hid (fun W => spot14 r hok (n : Int) (by omega) (by omega) (spotV_nat hok n) W)
  obtain ⟨⟨c0, c1⟩, ⟨d0, d1⟩, f0, f1⟩ := rbB_iff.1 hok
  have hlt := spN_lt r.spots.toNat n (by omega)
  have hbf := Lib.hid (fun W => bef14 r hok n (spN r.spots.toNat n) hn hlt rfl W)
  have hle := useN_le r.spots.toNat (spN r.spots.toNat n) n
  unfold shadeV at hv
  obtain ⟨S, I, K⟩ := r
  simp only at *
  obtain ⟨p, hp⟩ : ∃ p, spN S.toNat n = p := ⟨_, rfl⟩
  rw [hp] at hsp hbf hle hv
  obtain ⟨u, hu⟩ : ∃ u, useN S.toNat p n = u := ⟨_, rfl⟩
  rw [hu] at hbf hle hv
  have q0 : 0 ≤ K * (u : Int) := Int.mul_nonneg (by omega) (by omega)
  have q1 : K * (u : Int) ≤ 1000 * 200000 := Int.mul_le_mul (by omega) (by omega) (by omega) (by omega)
  obtain ⟨Q, hQ⟩ : ∃ Q, K * (u : Int) = Q := ⟨_, rfl⟩
  have hw1 : IntKind.i64.wrap (K * (u : Int)) = Q := by rw [hQ]; rw [hQ] at q0 q1; exact IntWalk.i64_in _ (by omega)
  rw [hQ] at q0 q1 hv
  have hw2 : IntKind.i64.wrap (I - Q) = I - Q := IntWalk.i64_in _ (by omega)
  have hmx := Lib.hid (fun W => max14 0 (I - Q) hv W)
  clear hok hv hlt hp hu hQ
  go_enter Try.func39, Try.ntmps39
  go_wp2_with fail
  refine wp_region_held_drew (S := fun w' => Below w.heap.size w w' ∧ w'.cell? ⟨w.heap.size, 0, none⟩ = some (.int .i64 S) ∧ w'.cell? ⟨w.heap.size, 1, none⟩ = some (.int .i64 I) ∧ w'.cell? ⟨w.heap.size, 2, none⟩ = some (.int .i64 K)) (by kernel_rfl) ?_ (fun hHeld => ?_)
  · exact ⟨(below_a1 _ _).drew, cell_new (by simp) rfl, cell_new (by simp) rfl, cell_new (by simp) rfl⟩
  refine wpAnyH_take (i := 0) (v := ?vaU1_0) rfl (by kernel_rfl) (by kernel_rfl) (by kernel_rfl) (fun _ _ _ h => h) (Or.inl ⟨rfl, ?yaU1_0⟩) (by assumption) ?_
  case yaU1_0 => (intro w hSw; (try dsimp only at hSw); go_simp; first | done | with_reducible rfl)
  simp only [List.getElem_toArray, List.getElem_cons_succ, List.getElem_cons_zero, Act.put, List.setIfInBounds_toArray, List.set_cons_zero, List.set_cons_succ]
  refine wpAnyH_take (i := 1) (v := ?vaU1_1) rfl (by kernel_rfl) (by kernel_rfl) (by kernel_rfl) (fun _ _ _ h => h) (Or.inl ⟨rfl, ?yaU1_1⟩) (by assumption) ?_
  case yaU1_1 => (intro w hSw; (try dsimp only at hSw); go_simp; first | done | with_reducible rfl)
  simp only [List.getElem_toArray, List.getElem_cons_succ, List.getElem_cons_zero, Act.put, List.setIfInBounds_toArray, List.set_cons_zero, List.set_cons_succ]
  refine wpAnyH_take (i := 2) (v := ?vaU1_2) rfl (by kernel_rfl) (by kernel_rfl) (by kernel_rfl) (fun _ _ _ h => h) (Or.inl ⟨rfl, ?yaU1_2⟩) (by assumption) ?_
  case yaU1_2 => (intro w hSw; (try dsimp only at hSw); go_simp; first | done | with_reducible rfl)
  simp only [List.getElem_toArray, List.getElem_cons_succ, List.getElem_cons_zero, Act.put, List.setIfInBounds_toArray, List.set_cons_zero, List.set_cons_succ]
  refine wpAnyH_take (i := 3) (v := ?vaU1_3) rfl (by kernel_rfl) (by kernel_rfl) (by kernel_rfl) (fun _ _ _ h => h) (Or.inl ⟨rfl, ?yaU1_3⟩) (by assumption) ?_
  case yaU1_3 => (intro w hSw; (try dsimp only at hSw); go_simp; first | done | with_reducible rfl)
  simp only [List.getElem_toArray, List.getElem_cons_succ, List.getElem_cons_zero, Act.put, List.setIfInBounds_toArray, List.set_cons_zero, List.set_cons_succ]
  refine wpAnyH_take (i := 4) (v := ?vaU1_4) rfl (by kernel_rfl) (by kernel_rfl) (by kernel_rfl) (fun _ _ _ h => h) (Or.inl ⟨rfl, ?yaU1_4⟩) (by assumption) ?_
  case yaU1_4 => (intro w hSw; (try dsimp only at hSw); go_simp; first | done | with_reducible rfl)
  simp only [List.getElem_toArray, List.getElem_cons_succ, List.getElem_cons_zero, Act.put, List.setIfInBounds_toArray, List.set_cons_zero, List.set_cons_succ]
  refine wpAnyH_take (i := 5) (v := ?vaU1_5) rfl (by kernel_rfl) (by kernel_rfl) (by kernel_rfl) (fun _ _ _ h => h) (Or.inl ⟨rfl, ?yaU1_5⟩) (by assumption) ?_
  case yaU1_5 => (intro w hSw; (try dsimp only at hSw); go_simp; first | done | with_reducible rfl)
  simp only [List.getElem_toArray, List.getElem_cons_succ, List.getElem_cons_zero, Act.put, List.setIfInBounds_toArray, List.set_cons_zero, List.set_cons_succ]
  refine wpAnyH_take (i := 6) (v := ?vaU1_6) rfl (by kernel_rfl) (by kernel_rfl) (by kernel_rfl) (fun _ _ _ h => h) (Or.inl ⟨rfl, ?yaU1_6⟩) (by assumption) ?_
  case yaU1_6 => (intro w hSw; (try dsimp only at hSw); go_simp; first | done | with_reducible rfl)
  simp only [List.getElem_toArray, List.getElem_cons_succ, List.getElem_cons_zero, Act.put, List.setIfInBounds_toArray, List.set_cons_zero, List.set_cons_succ]
  refine wpAnyH_take (i := 7) (v := ?vaU1_7) rfl (by kernel_rfl) (by kernel_rfl) (by kernel_rfl) (fun _ _ _ h => h) (Or.inl ⟨rfl, ?yaU1_7⟩) (by assumption) ?_
  case yaU1_7 => (intro w hSw; (try dsimp only at hSw); go_simp; first | done | with_reducible rfl)
  simp only [List.getElem_toArray, List.getElem_cons_succ, List.getElem_cons_zero, Act.put, List.setIfInBounds_toArray, List.set_cons_zero, List.set_cons_succ]
  refine wpAnyH_ready (rs := [8]) (by kernel_rfl) (by simp) ?_
  refine AllReadyH.cons rfl (fun K hK => ?_) AllReadyH.nil
  go_simp
  refine (hsp.out _).mono ?_
  rintro e w5 ⟨rfl, hb5⟩
  go_wp2_with fail
  refine hK.out _ _ ?_ (fun hHeld => ?_)
  · exact ⟨hHeld.1.step hb5, cell_step hHeld.2.1 hb5, cell_step hHeld.2.2.1 hb5, cell_step hHeld.2.2.2 hb5⟩
  clear hK K
  try simp only [List.getElem_toArray, List.getElem_cons_succ, List.getElem_cons_zero, Act.put, List.setIfInBounds_toArray, List.set_cons_zero, List.set_cons_succ]
  refine wpAnyH_ready (rs := [9]) (by kernel_rfl) (by simp) ?_
  refine AllReadyH.cons rfl (fun K hK => ?_) AllReadyH.nil
  go_simp
  refine (hbf.out _).mono ?_
  rintro e w6 ⟨rfl, hb6⟩
  go_wp2_with fail
  refine hK.out _ _ ?_ (fun hHeld => ?_)
  · exact ⟨hHeld.1.step hb6, cell_step hHeld.2.1 hb6, cell_step hHeld.2.2.1 hb6, cell_step hHeld.2.2.2 hb6⟩
  clear hK K
  try simp only [List.getElem_toArray, List.getElem_cons_succ, List.getElem_cons_zero, Act.put, List.setIfInBounds_toArray, List.set_cons_zero, List.set_cons_succ]
  refine wpAnyH_take (i := 10) (v := ?vaU1_10) rfl (by kernel_rfl) (by kernel_rfl) (by kernel_rfl) (fun _ _ _ h => h) (Or.inl ⟨rfl, ?yaU1_10⟩) (by assumption) ?_
  case yaU1_10 => (intro w hSw; (try dsimp only at hSw); go_simp; first | done | with_reducible rfl)
  simp only [List.getElem_toArray, List.getElem_cons_succ, List.getElem_cons_zero, Act.put, List.setIfInBounds_toArray, List.set_cons_zero, List.set_cons_succ]
  refine wpAnyH_take (i := 11) (v := ?vaU1_11) rfl (by kernel_rfl) (by kernel_rfl) (by kernel_rfl) (fun _ _ _ h => h) (Or.inl ⟨rfl, ?yaU1_11⟩) (by assumption) ?_
  case yaU1_11 => (intro w hSw; (try dsimp only at hSw); go_simp; first | done | with_reducible rfl)
  simp only [List.getElem_toArray, List.getElem_cons_succ, List.getElem_cons_zero, Act.put, List.setIfInBounds_toArray, List.set_cons_zero, List.set_cons_succ]
  refine wpAnyH_ready (rs := [12]) (by kernel_rfl) (by simp) ?_
  refine AllReadyH.cons rfl (fun K hK => ?_) AllReadyH.nil
  go_simp
  refine (hmx.out _).mono ?_
  rintro e w7 ⟨rfl, rfl⟩
  go_wp2_with fail
  refine hK.out _ _ ?_ (fun hHeld => ?_)
  · exact hHeld
  clear hK K
  try simp only [List.getElem_toArray, List.getElem_cons_succ, List.getElem_cons_zero, Act.put, List.setIfInBounds_toArray, List.set_cons_zero, List.set_cons_succ]
  refine wpAnyH_take (i := 13) (v := ?vaU1_13) rfl (by kernel_rfl) (by kernel_rfl) (by kernel_rfl) (fun _ _ _ h => h) (Or.inl ⟨rfl, ?yaU1_13⟩) (by assumption) ?_
  case yaU1_13 => (intro w hSw; (try dsimp only at hSw); go_simp; first | done | with_reducible rfl)
  simp only [List.getElem_toArray, List.getElem_cons_succ, List.getElem_cons_zero, Act.put, List.setIfInBounds_toArray, List.set_cons_zero, List.set_cons_succ]
  refine wpAnyH_done (by kernel_rfl) ?_ _
  go_wp2
  go_ret
  exact ⟨rfl, hHeld.1⟩
set_option maxHeartbeats 1600000 in
theorem sa14_spec (r : RibbonD) (n : Int) (w : World) (hg : r.good) (hwf : (Lit.int .i64 n).wf = true) :
    Calls Try.prog 21 #[.agg #[.int .i64 r.spots, .int .i64 r.ink, .int .i64 r.takes], .int .i64 n] w fun e w' => e = .returned (.tuple #[.int .i64 (saR14 r n).1, .int .i64 (saR14 r n).2]) ∧ Below w.heap.size w w' := by
  clear hg hwf
  generalize hr : saR14 r n = q
  replace hr := Lib.hid hr.symm
  have hc := Lib.hid (fun v h W => code14 r n (v := v) h W)
  by_cases h1 : rcC r n = 0
  · obtain ⟨hok, h0, h2⟩ := rcC_ok h1
    have hb : Hid (q = (shadeV r n.toNat, 0)) := Lib.hid (by rw [hr.out, saR14, if_pos h1])
    have hc1 := Lib.hid (fun W => hc.out _ h1 W)
    have hs := Lib.hid (fun W => shade14 r hok n.toNat (by omega) rfl W)
    rw [show ((n.toNat : Nat) : Int) = n from Int.toNat_of_nonneg h0] at hs
    generalize shadeV r n.toNat = g at *
    clear h1 hr hc hok h0 h2
    obtain ⟨S, I, K⟩ := r
    go_enter Try.func21, Try.ntmps21
    go_wp2_with fail
    refine (hc1.out _).mono ?_
    rintro e w1 ⟨rfl, hb1⟩
    obtain ⟨q0, q1, q2⟩ := (Box3r.new w _ (.int .i64 S) (.int .i64 I) (.int .i64 K)).step hb1
    go_wp2_with fail
    refine (hs.out _).mono ?_
    rintro e w2 ⟨rfl, hb2⟩
    go_wp2
    go_ret2
    exact ⟨ret8_2 hb.out, ((below_a1 _ _).step hb1).step hb2⟩
  · have hb : Hid (q = (0, rcC r n)) := Lib.hid (by rw [hr.out, saR14, if_neg h1])
    have hc1 := Lib.hid (fun W => hc.out _ rfl W)
    generalize rcC r n = g at *
    have y1 : (g == 0) = false := beq_eq_false_iff_ne.2 h1
    have y2 : (g != 0) = true := by rw [bne, y1]; rfl
    clear h1 hr hc
    obtain ⟨S, I, K⟩ := r
    go_enter Try.func21, Try.ntmps21
    go_wp2_with fail
    refine (hc1.out _).mono ?_
    rintro e w1 ⟨rfl, hb1⟩
    go_wp2
    go_ret2
    exact ⟨ret8_2 hb.out, (below_a1 _ _).step hb1⟩
end Go.Proofs.Ytceedmejmmoepaa
