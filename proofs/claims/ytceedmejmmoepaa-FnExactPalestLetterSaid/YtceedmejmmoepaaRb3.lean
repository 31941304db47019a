/- Ribbons: the model's uses of a spot. -/
import Derived.Test.YtceedmejmmoepaaRb1
import Derived.Test.YtceedmejmmoepaaRb2
namespace Go.Proofs.Ytceedmejmmoepaa
open Go.RowKit Go.ChangeShapes Go.WideShapes Go.Deep
set_option linter.unusedVariables false
set_option linter.unusedSimpArgs false

theorem useN_start (S p n : Nat) (hS : 2 ≤ S) (hp : p < S) : useN S p (n / (2 * (S - 1)) * (2 * (S - 1))) = if 0 < p ∧ p < S - 1 then 2 * (n / (2 * (S - 1))) else n / (2 * (S - 1)) := by
  have h := useN_many S p (n / (2 * (S - 1))) 0
  rw [Nat.add_zero, useN_turn S p hS hp, useN, Nat.add_zero] at h
  rw [h]
  split <;> omega
theorem and_gt {a b : Int} {v : Bool} (h : (decide (0 < a) && decide (a < b)) = v) : (if decide (0 < a) = true then decide (a < b) else false) = v := by
  subst h
  cases decide (0 < a) <;> rfl
set_option maxRecDepth 100000 in
set_option maxHeartbeats 2400000 in
theorem bef14 (r : RibbonD) (hok : rbB r = true) (n p : Nat) (hn : n ≤ 200000) (hp : p < r.spots.toNat) {v : Int} (hv : (useN r.spots.toNat p n : Int) = v) (w : World) :
    Calls Try.prog 37 #[.agg #[.int .i64 r.spots, .int .i64 r.ink, .int .i64 r.takes], .int .i64 (n : Int), .int .i64 (p : Int)] w fun e w' => e = .returned (.int .i64 v) ∧ Below w.heap.size w w' := by
  have hsp := Lib.hid (fun (k : Nat) (hk : k ≤ 200000) W => spot14 r hok (k : Int) (by omega) (by omega) (spotV_nat hok k) W)
  obtain ⟨⟨c0, c1⟩, _⟩ := rbB_iff.1 hok
  obtain ⟨S0, I, K⟩ := r
  simp only at *
  obtain ⟨S, rfl⟩ : ∃ S : Nat, S0 = (S : Int) := ⟨S0.toNat, by omega⟩
  rw [Int.toNat_natCast] at *
  clear hok
  have hstart := useN_start S p n (by omega) hp
  obtain ⟨T, hT⟩ : ∃ T, 2 * (S - 1) = T := ⟨_, rfl⟩
  rw [hT] at hstart
  have hT2 : (2 : Int) * ((S : Int) - 1) = (T : Int) := by omega
  obtain ⟨N, hN⟩ : ∃ N, n / T = N := ⟨_, rfl⟩
  have hN2 : (n : Int).tdiv (T : Int) = (N : Int) := by rw [← hN]; exact (Int.ofNat_tdiv n T).symm
  rw [hN] at hstart
  have hNT : N * T ≤ n := by rw [← hN]; exact Nat.div_mul_le_self n T
  have hNn : N ≤ n := by rw [← hN]; exact Nat.div_le_self n T
  have hmul : (N : Int) * (T : Int) = ((N * T : Nat) : Int) := by rw [Int.natCast_mul]
  obtain ⟨M, hM⟩ : ∃ M, N * T = M := ⟨_, rfl⟩
  rw [hM] at hstart hNT hmul
  have hw1 : IntKind.i64.wrap ((S : Int) - 1) = (S : Int) - 1 := IntWalk.i64_in _ (by omega)
  have hw2 : IntKind.i64.wrap (2 * ((S : Int) - 1)) = (T : Int) := by rw [hT2]; exact IntWalk.i64_in _ (by omega)
  have hz : ((T : Int) == 0) = false := beq_eq_false_iff_ne.2 (by omega)
  have hz2 : ¬ (T : Int) = 0 := by omega
  have hw3 : IntKind.i64.wrap (N : Int) = (N : Int) := IntWalk.i64_in _ (by omega)
  have hw4 : IntKind.i64.wrap (2 * (N : Int)) = 2 * (N : Int) := IntWalk.i64_in _ (by omega)
  have hw5 : IntKind.i64.wrap ((N : Int) * (T : Int)) = (M : Int) := by rw [hmul]; exact IntWalk.i64_in _ (by omega)
  obtain ⟨U, hU⟩ : ∃ U, useN S p M = U := ⟨_, rfl⟩
  rw [hU] at hstart
  replace hU := Lib.hid hU
  replace hv := Lib.hid hv
  have hMn := Lib.hid hNT
  clear hT hT2 hN hM hmul hNT
  by_cases hp0 : 0 < p
  · have e1 : decide ((0 : Int) < (p : Int)) = true := decide_eq_true (by omega)
    have e1n : decide (0 < p) = true := decide_eq_true hp0
    by_cases hp1 : p < S - 1
    · have e2 : decide ((p : Int) < (S : Int) - 1) = true := decide_eq_true (by omega)
      rw [if_pos ⟨hp0, hp1⟩] at hstart
      have hUN : Hid (2 * (N : Int) = (U : Int)) := Lib.hid (by omega)
      clear hstart hp0 hp1
      go_enter Try.func37, Try.ntmps37
      go_wp2
      go_loopw [9, 10] (fun u i wr => ∃ (k : Nat), M ≤ k ∧ k ≤ n ∧ i = .int .i64 (k : Int) ∧ u = .int .i64 (useN S p k : Int) ∧ Box3r w.heap.size (.int .i64 (S : Int)) (.int .i64 I) (.int .i64 K) wr ∧ Below w.heap.size w wr) (fun _ i _ => n - (intOf i).toNat)
      case atStart => exact ⟨M, Nat.le_refl _, hMn.out, rfl, by rw [hU.out, ← hUN.out], Box3r.new w _ _ _ _, below_a1 _ _⟩
      case round =>
        rename World => wr
        obtain ⟨k, hk0, hk, rfl, rfl, hbx, hbw⟩ := hrel
        obtain ⟨q0, q1, q2⟩ := hbx
        by_cases hlt : k < n
        · have i1 : decide ((k : Int) < (n : Int)) = true := decide_eq_true (by omega)
          have hwk : IntKind.i64.wrap ((k : Int) + 1) = ((k + 1 : Nat) : Int) := by rw [IntWalk.i64_in _ (by omega)]; omega
          have hle := useN_le S p k
          have hnx := Lib.hid (show useN S p (k + 1) = useN S p k + if spN S k = p then 1 else 0 from rfl)
          obtain ⟨u, hu⟩ : ∃ u, useN S p k = u := ⟨_, rfl⟩
          rw [hu] at hnx hle
          rw [hu]
          have hwu : IntKind.i64.wrap ((u : Int) + 1) = ((u + 1 : Nat) : Int) := by rw [IntWalk.i64_in _ (by omega)]; omega
          have hc := Lib.hid (fun W => hsp.out k (by omega) W)
          have hq := Lib.hid (Box3r.mk q0 q1 q2)
          obtain ⟨x, hx⟩ : ∃ x, spN S k = x := ⟨_, rfl⟩
          rw [hx] at hc hnx
          replace hle := Lib.hid hle
          clear hu hx
          by_cases hxp : x = p
          · have e3 : ((x : Int) == (p : Int)) = true := beq_iff_eq.2 (by omega)
            have e4 : (x == p) = true := beq_iff_eq.2 hxp
            have hn2 : Hid (((u + 1 : Nat) : Int) = (useN S p (k + 1) : Int)) := Lib.hid (by rw [hnx.out, if_pos hxp])
            clear hxp hnx
            go_wp2_with fail
            refine (hc.out _).mono ?_
            rintro e w1 ⟨rfl, hb1⟩
            have hfin := Lib.hid (And.intro (hq.out.step hb1) (hbw.step hb1))
            clear hb1
            go_wp2
            go_roundw
            case rel => exact ⟨k + 1, by omega, by omega, by go_num, by rw [← hn2.out]; simp, hfin.out.1, hfin.out.2⟩
            case measure => simp [intOf]; omega
          · have e3 : ((x : Int) == (p : Int)) = false := beq_eq_false_iff_ne.2 (by omega)
            have e4 : (x == p) = false := beq_eq_false_iff_ne.2 hxp
            have hn2 : Hid ((u : Int) = (useN S p (k + 1) : Int)) := Lib.hid (by rw [hnx.out, if_neg hxp]; rfl)
            clear hxp hnx
            go_wp2_with fail
            refine (hc.out _).mono ?_
            rintro e w1 ⟨rfl, hb1⟩
            have hfin := Lib.hid (And.intro (hq.out.step hb1) (hbw.step hb1))
            clear hb1
            go_wp2
            go_roundw
            case rel => exact ⟨k + 1, by omega, by omega, by go_num, by rw [← hn2.out], hfin.out.1, hfin.out.2⟩
            case measure => simp [intOf]; omega
        · obtain rfl : k = n := by omega
          have i1 : decide ((k : Int) < (k : Int)) = false := decide_eq_false (by omega)
          go_wp2
          go_ret
          exact ⟨ret_i64 hv.out, hbw⟩
    · have e2 : decide ((p : Int) < (S : Int) - 1) = false := decide_eq_false (by omega)
      rw [if_neg (fun h => hp1 h.2)] at hstart
      have hUN : Hid ((N : Int) = (U : Int)) := Lib.hid (by omega)
      clear hstart hp0 hp1
      go_enter Try.func37, Try.ntmps37
      go_wp2
      go_loopw [9, 10] (fun u i wr => ∃ (k : Nat), M ≤ k ∧ k ≤ n ∧ i = .int .i64 (k : Int) ∧ u = .int .i64 (useN S p k : Int) ∧ Box3r w.heap.size (.int .i64 (S : Int)) (.int .i64 I) (.int .i64 K) wr ∧ Below w.heap.size w wr) (fun _ i _ => n - (intOf i).toNat)
      case atStart => exact ⟨M, Nat.le_refl _, hMn.out, rfl, by rw [hU.out, ← hUN.out], Box3r.new w _ _ _ _, below_a1 _ _⟩
      case round =>
        rename World => wr
        obtain ⟨k, hk0, hk, rfl, rfl, hbx, hbw⟩ := hrel
        obtain ⟨q0, q1, q2⟩ := hbx
        by_cases hlt : k < n
        · have i1 : decide ((k : Int) < (n : Int)) = true := decide_eq_true (by omega)
          have hwk : IntKind.i64.wrap ((k : Int) + 1) = ((k + 1 : Nat) : Int) := by rw [IntWalk.i64_in _ (by omega)]; omega
          have hle := useN_le S p k
          have hnx := Lib.hid (show useN S p (k + 1) = useN S p k + if spN S k = p then 1 else 0 from rfl)
          obtain ⟨u, hu⟩ : ∃ u, useN S p k = u := ⟨_, rfl⟩
          rw [hu] at hnx hle
          rw [hu]
          have hwu : IntKind.i64.wrap ((u : Int) + 1) = ((u + 1 : Nat) : Int) := by rw [IntWalk.i64_in _ (by omega)]; omega
          have hc := Lib.hid (fun W => hsp.out k (by omega) W)
          have hq := Lib.hid (Box3r.mk q0 q1 q2)
          obtain ⟨x, hx⟩ : ∃ x, spN S k = x := ⟨_, rfl⟩
          rw [hx] at hc hnx
          replace hle := Lib.hid hle
          clear hu hx
          by_cases hxp : x = p
          · have e3 : ((x : Int) == (p : Int)) = true := beq_iff_eq.2 (by omega)
            have e4 : (x == p) = true := beq_iff_eq.2 hxp
            have hn2 : Hid (((u + 1 : Nat) : Int) = (useN S p (k + 1) : Int)) := Lib.hid (by rw [hnx.out, if_pos hxp])
            clear hxp hnx
            go_wp2_with fail
            refine (hc.out _).mono ?_
            rintro e w1 ⟨rfl, hb1⟩
            have hfin := Lib.hid (And.intro (hq.out.step hb1) (hbw.step hb1))
            clear hb1
            go_wp2
            go_roundw
            case rel => exact ⟨k + 1, by omega, by omega, by go_num, by rw [← hn2.out]; simp, hfin.out.1, hfin.out.2⟩
            case measure => simp [intOf]; omega
          · have e3 : ((x : Int) == (p : Int)) = false := beq_eq_false_iff_ne.2 (by omega)
            have e4 : (x == p) = false := beq_eq_false_iff_ne.2 hxp
            have hn2 : Hid ((u : Int) = (useN S p (k + 1) : Int)) := Lib.hid (by rw [hnx.out, if_neg hxp]; rfl)
            clear hxp hnx
            go_wp2_with fail
            refine (hc.out _).mono ?_
            rintro e w1 ⟨rfl, hb1⟩
            have hfin := Lib.hid (And.intro (hq.out.step hb1) (hbw.step hb1))
            clear hb1
            go_wp2
            go_roundw
            case rel => exact ⟨k + 1, by omega, by omega, by go_num, by rw [← hn2.out], hfin.out.1, hfin.out.2⟩
            case measure => simp [intOf]; omega
        · obtain rfl : k = n := by omega
          have i1 : decide ((k : Int) < (k : Int)) = false := decide_eq_false (by omega)
          go_wp2
          go_ret
          exact ⟨ret_i64 hv.out, hbw⟩
  · have e1 : decide ((0 : Int) < (p : Int)) = false := decide_eq_false (by omega)
    have e1n : decide (0 < p) = false := decide_eq_false hp0
    rw [if_neg (fun h => hp0 h.1)] at hstart
    have hUN : Hid ((N : Int) = (U : Int)) := Lib.hid (by omega)
    clear hstart hp0
    go_enter Try.func37, Try.ntmps37
    go_wp2
    go_loopw [9, 10] (fun u i wr => ∃ (k : Nat), M ≤ k ∧ k ≤ n ∧ i = .int .i64 (k : Int) ∧ u = .int .i64 (useN S p k : Int) ∧ Box3r w.heap.size (.int .i64 (S : Int)) (.int .i64 I) (.int .i64 K) wr ∧ Below w.heap.size w wr) (fun _ i _ => n - (intOf i).toNat)
    case atStart => exact ⟨M, Nat.le_refl _, hMn.out, rfl, by rw [hU.out, ← hUN.out], Box3r.new w _ _ _ _, below_a1 _ _⟩
    case round =>
      rename World => wr
      obtain ⟨k, hk0, hk, rfl, rfl, hbx, hbw⟩ := hrel
      obtain ⟨q0, q1, q2⟩ := hbx
      by_cases hlt : k < n
      · have i1 : decide ((k : Int) < (n : Int)) = true := decide_eq_true (by omega)
        have hwk : IntKind.i64.wrap ((k : Int) + 1) = ((k + 1 : Nat) : Int) := by rw [IntWalk.i64_in _ (by omega)]; omega
        have hle := useN_le S p k
        have hnx := Lib.hid (show useN S p (k + 1) = useN S p k + if spN S k = p then 1 else 0 from rfl)
        obtain ⟨u, hu⟩ : ∃ u, useN S p k = u := ⟨_, rfl⟩
        rw [hu] at hnx hle
        rw [hu]
        have hwu : IntKind.i64.wrap ((u : Int) + 1) = ((u + 1 : Nat) : Int) := by rw [IntWalk.i64_in _ (by omega)]; omega
        have hc := Lib.hid (fun W => hsp.out k (by omega) W)
        have hq := Lib.hid (Box3r.mk q0 q1 q2)
        obtain ⟨x, hx⟩ : ∃ x, spN S k = x := ⟨_, rfl⟩
        rw [hx] at hc hnx
        replace hle := Lib.hid hle
        clear hu hx
        by_cases hxp : x = p
        · have e3 : ((x : Int) == (p : Int)) = true := beq_iff_eq.2 (by omega)
          have e4 : (x == p) = true := beq_iff_eq.2 hxp
          have hn2 : Hid (((u + 1 : Nat) : Int) = (useN S p (k + 1) : Int)) := Lib.hid (by rw [hnx.out, if_pos hxp])
          clear hxp hnx
          go_wp2_with fail
          refine (hc.out _).mono ?_
          rintro e w1 ⟨rfl, hb1⟩
          have hfin := Lib.hid (And.intro (hq.out.step hb1) (hbw.step hb1))
          clear hb1
          go_wp2
          go_roundw
          case rel => exact ⟨k + 1, by omega, by omega, by go_num, by rw [← hn2.out]; simp, hfin.out.1, hfin.out.2⟩
          case measure => simp [intOf]; omega
        · have e3 : ((x : Int) == (p : Int)) = false := beq_eq_false_iff_ne.2 (by omega)
          have e4 : (x == p) = false := beq_eq_false_iff_ne.2 hxp
          have hn2 : Hid ((u : Int) = (useN S p (k + 1) : Int)) := Lib.hid (by rw [hnx.out, if_neg hxp]; rfl)
          clear hxp hnx
          go_wp2_with fail
          refine (hc.out _).mono ?_
          rintro e w1 ⟨rfl, hb1⟩
          have hfin := Lib.hid (And.intro (hq.out.step hb1) (hbw.step hb1))
          clear hb1
          go_wp2
          go_roundw
          case rel => exact ⟨k + 1, by omega, by omega, by go_num, by rw [← hn2.out], hfin.out.1, hfin.out.2⟩
          case measure => simp [intOf]; omega
      · obtain rfl : k = n := by omega
        have i1 : decide ((k : Int) < (k : Int)) = false := decide_eq_false (by omega)
        go_wp2
        go_ret
        exact ⟨ret_i64 hv.out, hbw⟩
end Go.Proofs.Ytceedmejmmoepaa
