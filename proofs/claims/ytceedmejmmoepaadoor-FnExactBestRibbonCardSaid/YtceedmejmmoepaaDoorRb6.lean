/- Ribbons: how many strokes are dark enough, by the model. -/
import Derived.Test.YtceedmejmmoepaaDoorRb5
namespace Go.Proofs.YtceedmejmmoepaaDoor
open Go.RowKit Go.ChangeShapes Go.WideShapes Go.Deep
set_option linter.unusedVariables false
set_option linter.unusedSimpArgs false

theorem usesL_at (S n : Nat) {p : Nat} (hp : p < S) : (usesL S n S).getD p 0 = (useN S p n : Int) := by
  have h1 : p < (usesL S n S).length := by rw [usesL_len]; exact hp
  rw [List.getD, List.getElem?_eq_getElem h1]
  simp [usesL]
theorem usesL_zero (S : Nat) : usesL S 0 S = List.replicate S 0 := by
  apply List.ext_getElem
  · simp [usesL]
  · intro i h1 h2
    simp [usesL, useN]
theorem usesL_step (S k : Nat) {p : Nat} (hp : spN S k = p) : usesL S (k + 1) S = (usesL S k S).set p ((useN S p k : Int) + 1) := by
  apply List.ext_getElem
  · simp [usesL]
  · intro i h1 h2
    rw [List.getElem_set]
    by_cases hi : p = i
    · subst hi
      rw [if_pos rfl]
      simp [usesL, useN, hp]
    · rw [if_neg hi]
      simp [usesL, useN, hp, hi]
theorem shadeV_at (r : RibbonD) (k : Nat) {p : Nat} (hp : spN r.spots.toNat k = p) : shadeV r k = max 0 (r.ink - r.takes * (useN r.spots.toNat p k : Int)) := by
  subst hp; rfl
theorem cell_otherR {w : World} {b o g i : Nat} {x y : Value} (h : w.cell? ⟨b, o, none⟩ = some x) (hne : b ≠ g) : (w.setCell ⟨g, i, none⟩ y).cell? ⟨b, o, none⟩ = some x := by
  rw [← h]
  simp only [World.cell?, World.setCell, Array.getElem?_modify]
  rw [if_neg (fun e => hne e.symm)]
set_option maxRecDepth 100000 in
set_option maxHeartbeats 2400000 in
theorem until14 (r : RibbonD) (hok : rbB r = true) (least : Int) {v : Int} (hv : (untilN r least : Int) = v) (w : World) :
    Calls Tryd.prog 22 #[.agg #[.int .i64 r.spots, .int .i64 r.ink, .int .i64 r.takes], .int .i64 least] w fun e w' => e = .returned (.int .i64 v) ∧ Below w.heap.size w w' := by
  have hsp := Lib.hid (fun (k : Nat) (hk : k ≤ 100000) W => spot14 r hok (k : Int) (by omega) (by omega) (spotV_nat hok k) W)
  obtain ⟨⟨c0, c1⟩, ⟨d0, d1⟩, f0, f1⟩ := rbB_iff.1 hok
  have hsh := Lib.hid (fun (k p : Nat) (hp : spN r.spots.toNat k = p) => shadeV_at r k hp)
  obtain ⟨F, hF⟩ : ∃ F, (fun m k => untilF r least m k) = F := ⟨_, rfl⟩
  have hun : (F 100001 0 : Int) = v := by rw [← hF]; exact hv
  have hst := Lib.hid (fun m k => show F (m + 1) k = if shadeV r k < least then k else F m (k + 1) from by rw [← hF]; rfl)
  have hend := Lib.hid (fun k => show F 0 k = k from by rw [← hF]; rfl)
  obtain ⟨D, hD⟩ : ∃ D, (fun k => shadeV r k) = D := ⟨_, rfl⟩
  replace hst := Lib.hid (fun m k => show F (m + 1) k = if D k < least then k else F m (k + 1) from by rw [← hD]; exact hst.out m k)
  replace hsh := Lib.hid (fun (k p : Nat) (hp : spN r.spots.toNat k = p) => show D k = max 0 (r.ink - r.takes * (useN r.spots.toNat p k : Int)) from by rw [← hD]; exact hsh.out k p hp)
  clear hF hD hv hok
  obtain ⟨S0, I, K⟩ := r
  simp only at *
  obtain ⟨S, rfl⟩ : ∃ S : Nat, S0 = (S : Int) := ⟨S0.toNat, by omega⟩
  rw [Int.toNat_natCast] at *
  obtain ⟨i0, hi, hz0, hz1, hz2⟩ := info_parts Tryd.infoI64
  have hmk := fun W => run_make_many (P := Tryd.prog) 32 2 i0 _ Tryd.underlying32 hi hz0 .i64 .i64 S (by rw [hz2]; omega) (by omega) W
  rw [hz1, Nat.mul_one] at hmk
  replace hun := Lib.hid hun
  have hO0 := Lib.hid (OInts.zerosI (w.alloc (.cells #[.int .i64 (S : Int), .int .i64 I, .int .i64 K] 26)) S)
  have hB0 := Lib.hid (Box3r.new w 26 (.int .i64 (S : Int)) (.int .i64 I) (.int .i64 K))
  have hb0 := Lib.hid (below_a2 w (.cells #[.int .i64 (S : Int), .int .i64 I, .int .i64 K] 26) (.cells (madeCells #[.int .i64 0] S) 2))
  rw [show (w.alloc (.cells #[.int .i64 (S : Int), .int .i64 I, .int .i64 K] 26)).heap.size = w.heap.size + 1 from by simp] at hO0
  rw [← usesL_zero] at hO0
  have hB1 := Lib.hid (hB0.out.step (below_a1 _ (.cells (madeCells #[.int .i64 0] S) 2)))
  obtain ⟨q0, q1, q2⟩ := hB0.out
  clear hB0
  go_enter Tryd.func22, Tryd.ntmps22
  go_wp2
  clear q0 q1 q2
  obtain ⟨G, hG⟩ : ∃ G, w.heap.size + 1 = G := ⟨_, rfl⟩
  have hGw : w.heap.size ≤ G := by omega
  have hGl := Lib.hid hG
  rw [hG] at hO0 ⊢
  go_loopw [6, 7] (fun i _ wr => ∃ k : Nat, k ≤ 100001 ∧ i = .int .i64 (k : Int) ∧ F 100001 0 = F (100001 - k) k ∧ OInts wr G (some ⟨G, 0, none⟩) S (usesL S k S) ∧ Box3r w.heap.size (.int .i64 (S : Int)) (.int .i64 I) (.int .i64 K) wr ∧ Below w.heap.size w wr) (fun i _ _ => 100001 - (intOf i).toNat)
  case atStart => exact ⟨0, by omega, rfl, rfl, hO0.out, hB1.out, hb0.out⟩
  case round =>
    rename World => wr
    obtain ⟨k, hk, rfl, hFk, hO, hbx, hbw⟩ := hrel
    replace hFk := Lib.hid hFk
    replace hO := Lib.hid hO
    replace hbx := Lib.hid hbx
    by_cases hlt : k < 100001
    · have g1 : decide ((k : Int) ≤ 100000) = true := decide_eq_true (by omega)
      have hwk : IntKind.i64.wrap ((k : Int) + 1) = ((k + 1 : Nat) : Int) := by rw [IntWalk.i64_in _ (by omega)]; omega
      obtain ⟨p, hp⟩ : ∃ p, spN S k = p := ⟨_, rfl⟩
      have hpS : p < S := by rw [← hp]; exact spN_lt S k (by omega)
      have hc := Lib.hid (fun W => hsp.out k (by omega) W)
      rw [hp] at hc
      have hDk := Lib.hid (hsh.out k p hp)
      have hus := Lib.hid (usesL_step S k hp)
      have hua := usesL_at S k hpS
      have hle := useN_le S p k
      obtain ⟨u, hu⟩ : ∃ u, useN S p k = u := ⟨_, rfl⟩
      rw [hu] at hDk hus hua hle
      have z0 : 0 ≤ K * (u : Int) := Int.mul_nonneg (by omega) (by omega)
      have z1 : K * (u : Int) ≤ 1000 * 100000 := Int.mul_le_mul (by omega) (by omega) (by omega) (by omega)
      obtain ⟨Q, hQ⟩ : ∃ Q, K * (u : Int) = Q := ⟨_, rfl⟩
      have hw1 : IntKind.i64.wrap (K * (u : Int)) = Q := by rw [hQ]; rw [hQ] at z0 z1; exact IntWalk.i64_in _ (by omega)
      rw [hQ] at z0 z1 hDk
      have hw2 : IntKind.i64.wrap (I - Q) = I - Q := IntWalk.i64_in _ (by omega)
      have hwu : IntKind.i64.wrap ((u : Int) + 1) = (u : Int) + 1 := IntWalk.i64_in _ (by omega)
      have hmx := Lib.hid (fun W => max14 0 (I - Q) hDk.out.symm W)
      have hnx := Lib.hid (hst.out (100001 - (k + 1)) k)
      have p0 : (0 : Int) ≤ (p : Int) := Int.natCast_nonneg _
      have p1 : (p : Int) < (S : Int) := by omega
      clear hDk hp hu hQ
      generalize D k = d at *
      obtain ⟨q0, q1, q2⟩ := hbx.out
      go_wp2_with fail
      refine (hc.out _).mono ?_
      rintro e w2 ⟨rfl, hb2⟩
      clear q0 q1 q2
      have hO2 := Lib.hid (hO.out.below hb2)
      have hbx2 := Lib.hid (hbx.out.step hb2)
      have hbw2 := Lib.hid (hbw.step hb2)
      clear hb2
      obtain ⟨s0, f3, l0, _⟩ := OInts.partsI hO2.out hpS
      rw [hua] at s0
      obtain ⟨q0, q1, q2⟩ := hbx2.out
      have hput := Lib.hid (fun (W : World) (h : OInts W G (some ⟨G, 0, none⟩) S (usesL S k S)) => OInts.putI ((u : Int) + 1) h hpS)
      rw [← hus.out] at hput
      replace hua := Lib.hid hua
      by_cases hd : d < least
      · have e1 : decide (d < least) = true := decide_eq_true hd
        have hv2 : Hid (((k : Nat) : Int) = v) := Lib.hid (by
          have h5 := hFk.out
          rw [show 100001 - k = 100001 - (k + 1) + 1 by omega, hnx.out, if_pos hd] at h5
          rw [← hun.out, h5])
        clear hd hnx
        go_wp2_with fail
        go_quiet ((go_at_call 44; refine quiet_l (hmx.out _)))
        go_wp2
        go_ret
        exact ⟨ret_i64 hv2.out, below_drewN hbw2.out _⟩
      · have e1 : decide (d < least) = false := decide_eq_false hd
        have hv2 : Hid (F 100001 0 = F (100001 - (k + 1)) (k + 1)) := Lib.hid (by
          have h5 := hFk.out
          rw [show 100001 - k = 100001 - (k + 1) + 1 by omega, hnx.out, if_neg hd] at h5
          exact h5)
        clear hd hnx
        go_wp2_with fail
        go_quiet ((go_at_call 44; refine quiet_l (hmx.out _)))
        obtain ⟨w3, hw3⟩ : ∃ w3, w2.drewN nq = w3 := ⟨_, rfl⟩
        have hD3 : Below w2.heap.size w2 w3 := hw3 ▸ below_drewN (Below.refl _ _) _
        rw [hw3]
        have hO3 := Lib.hid (hO2.out.below hD3)
        have hbx3 := Lib.hid (hbx2.out.step hD3)
        have hbw3 := Lib.hid (hbw2.out.step hD3)
        clear s0 f3 l0 q0 q1 q2 hw3 hD3
        obtain ⟨s0, f3, l0, _⟩ := OInts.partsI hO3.out hpS
        rw [hua.out] at s0
        have hfin := Lib.hid (And.intro (hput.out _ hO3.out) (hbw3.out.setCell (p := ⟨G, p, none⟩) hGw (.int .i64 ((u : Int) + 1))))
        have hbx4 : Hid (Box3r w.heap.size (.int .i64 (S : Int)) (.int .i64 I) (.int .i64 K) (w3.setCell ⟨G, p, none⟩ (.int .i64 ((u : Int) + 1)))) := Lib.hid ⟨cell_otherR hbx3.out.c0 (by omega), cell_otherR hbx3.out.c1 (by omega), cell_otherR hbx3.out.c2 (by omega)⟩
        go_wp2
        go_roundw
        case rel => exact ⟨k + 1, by omega, by go_num, hv2.out, hfin.out.1, hbx4.out, hfin.out.2⟩
        case measure => simp [intOf]; omega
    · obtain rfl : k = 100001 := by omega
      have hv2 : Hid ((100001 : Int) = v) := Lib.hid (by
        have h5 := hFk.out
        rw [show 100001 - 100001 = 0 from rfl, hend.out] at h5
        rw [← hun.out, h5]; rfl)
      simp only [show ((100001 : Nat) : Int) = 100001 from rfl]
      go_wp2
      go_ret
      exact ⟨ret_i64 hv2.out, hbw⟩
end Go.Proofs.YtceedmejmmoepaaDoor
