/- Ribbons: the model's RibbonsFor. -/
import Derived.Test.YtceedmejmmoepaaDoorRb6
namespace Go.Proofs.YtceedmejmmoepaaDoor
open Go.RowKit Go.ChangeShapes Go.WideShapes Go.Deep
set_option linter.unusedVariables false
set_option linter.unusedSimpArgs false

theorem untilN_range {r : RibbonD} {l : Int} (hok : rbB r = true) (h : l ≤ r.ink) : 1 ≤ untilN r l ∧ untilN r l ≤ 100001 := by
  obtain ⟨_, ⟨d0, _⟩, _⟩ := rbB_iff.1 hok
  have h2 := untilF_le r l 100001 0
  refine ⟨?_, by unfold untilN; omega⟩
  have hs : ¬ shadeV r 0 < l := by
    simp only [shadeV, useN]
    omega
  have h3 := untilF_le r l 100000 1
  unfold untilN
  rw [untilF, if_neg hs]
  exact h3.1
def manyV (r : RibbonD) (n l : Int) : Int := (n + untilN r l - 1).tdiv (untilN r l)
def rfR14 (r : RibbonD) (n l : Int) : Int × Int := if rlC r l = 0 then (if rcC r n = 0 then (manyV r n l, 0) else (0, rcC r n)) else (0, rlC r l)
theorem many14 (r : RibbonD) (hok : rbB r = true) (n l : Int) (h0 : 0 ≤ n) (h1 : n ≤ 100000) (hl : l ≤ r.ink) {v : Int} (hv : manyV r n l = v) (w : World) :
    Calls Tryd.prog 28 #[.agg #[.int .i64 r.spots, .int .i64 r.ink, .int .i64 r.takes], .int .i64 n, .int .i64 l] w fun e w' => e = .returned (.int .i64 v) ∧ Below w.heap.size w w' := by
  have hc := Lib.hid (fun W => until14 r hok l rfl W)
  obtain ⟨u0, u1⟩ := untilN_range hok hl
  unfold manyV at hv
  obtain ⟨u, hu⟩ : ∃ u, untilN r l = u := ⟨_, rfl⟩
  rw [hu] at hc hv u0 u1
  clear hok hu hl
  have hw1 : IntKind.i64.wrap (n + (u : Int)) = n + (u : Int) := IntWalk.i64_in _ (by omega)
  have hw2 : IntKind.i64.wrap (n + (u : Int) - 1) = n + (u : Int) - 1 := IntWalk.i64_in _ (by omega)
  have hz : ((u : Int) == 0) = false := beq_eq_false_iff_ne.2 (by omega)
  have hz2 : ¬ (u : Int) = 0 := by omega
  have hz3 : ¬ u = 0 := by omega
  have hz4 : (u == 0) = false := beq_eq_false_iff_ne.2 hz3
  have q0 : 0 ≤ (n + (u : Int) - 1).tdiv (u : Int) := Int.tdiv_nonneg (by omega) (by omega)
  have q1 : (n + (u : Int) - 1).tdiv (u : Int) ≤ n + (u : Int) - 1 := Int.tdiv_le_self _ (by omega)
  obtain ⟨Q, hQ⟩ : ∃ Q, (n + (u : Int) - 1).tdiv (u : Int) = Q := ⟨_, rfl⟩
  rw [hQ] at hv q0 q1
  have hw3 : IntKind.i64.wrap Q = Q := IntWalk.i64_in _ (by omega)
  replace hv := Lib.hid hv
  obtain ⟨S, I, K⟩ := r
  go_enter Tryd.func28, Tryd.ntmps28
  go_wp2_with fail
  refine (hc.out _).mono ?_
  rintro e w1 ⟨rfl, hb1⟩
  go_wp2
  go_ret
  exact ⟨ret_i64 hv.out, (below_a1 _ _).step hb1⟩
set_option maxHeartbeats 1600000 in
theorem rf14_spec (r : RibbonD) (n l : Int) (w : World) (hg : r.good) (hwn : (Lit.int .i64 n).wf = true) (hwl : (Lit.int .i64 l).wf = true) :
    Calls Tryd.prog 10 #[.agg #[.int .i64 r.spots, .int .i64 r.ink, .int .i64 r.takes], .int .i64 n, .int .i64 l] w fun e w' => e = .returned (.tuple #[.int .i64 (rfR14 r n l).1, .int .i64 (rfR14 r n l).2]) ∧ Below w.heap.size w w' := by
  clear hg hwn hwl
  generalize hr : rfR14 r n l = q
  replace hr := Lib.hid hr.symm
  have hc := Lib.hid (fun v h W => code14 r n (v := v) h W)
  have hl := Lib.hid (fun v h W => least14 r l (v := v) h W)
  by_cases h1 : rlC r l = 0
  · have hl1 := Lib.hid (fun W => hl.out _ h1 W)
    by_cases h2 : rcC r n = 0
    · have hc1 := Lib.hid (fun W => hc.out _ h2 W)
      have hb : Hid (q = (manyV r n l, 0)) := Lib.hid (by rw [hr.out, rfR14, if_pos h1, if_pos h2])
      have hm := Lib.hid (fun W => many14 r (rcC_ok h2).1 n l (rcC_ok h2).2.1 (rcC_ok h2).2.2 (rlC_ok h1).2.2 rfl W)
      generalize manyV r n l = g at *
      clear h1 h2 hr hc hl
      obtain ⟨S, I, K⟩ := r
      go_enter Tryd.func10, Tryd.ntmps10
      go_wp2_with fail
      refine (hl1.out _).mono ?_
      rintro e w1 ⟨rfl, hb1⟩
      obtain ⟨q0, q1, q2⟩ := (Box3r.new w _ (.int .i64 S) (.int .i64 I) (.int .i64 K)).step hb1
      have hB := Lib.hid (Box3r.mk q0 q1 q2)
      go_wp2_with fail
      refine (hc1.out _).mono ?_
      rintro e w2 ⟨rfl, hb2⟩
      clear q0 q1 q2
      obtain ⟨q0, q1, q2⟩ := hB.out.step hb2
      go_wp2_with fail
      refine (hm.out _).mono ?_
      rintro e w3 ⟨rfl, hb3⟩
      go_wp2
      go_ret2
      exact ⟨ret8_2 hb.out, (((below_a1 _ _).step hb1).step hb2).step hb3⟩
    · have hb : Hid (q = (0, rcC r n)) := Lib.hid (by rw [hr.out, rfR14, if_pos h1, if_neg h2])
      have hc1 := Lib.hid (fun W => hc.out _ rfl W)
      generalize rcC r n = g at *
      have y1 : (g == 0) = false := beq_eq_false_iff_ne.2 h2
      have y2 : (g != 0) = true := by rw [bne, y1]; rfl
      clear h1 h2 hr hc hl
      obtain ⟨S, I, K⟩ := r
      go_enter Tryd.func10, Tryd.ntmps10
      go_wp2_with fail
      refine (hl1.out _).mono ?_
      rintro e w1 ⟨rfl, hb1⟩
      obtain ⟨q0, q1, q2⟩ := (Box3r.new w _ (.int .i64 S) (.int .i64 I) (.int .i64 K)).step hb1
      go_wp2_with fail
      refine (hc1.out _).mono ?_
      rintro e w2 ⟨rfl, hb2⟩
      go_wp2
      go_ret2
      exact ⟨ret8_2 hb.out, ((below_a1 _ _).step hb1).step hb2⟩
  · have hb : Hid (q = (0, rlC r l)) := Lib.hid (by rw [hr.out, rfR14, if_neg h1])
    have hl1 := Lib.hid (fun W => hl.out _ rfl W)
    generalize rlC r l = g at *
    have y1 : (g == 0) = false := beq_eq_false_iff_ne.2 h1
    have y2 : (g != 0) = true := by rw [bne, y1]; rfl
    clear h1 hr hc hl
    obtain ⟨S, I, K⟩ := r
    go_enter Tryd.func10, Tryd.ntmps10
    go_wp2_with fail
    refine (hl1.out _).mono ?_
    rintro e w1 ⟨rfl, hb1⟩
    go_wp2
    go_ret2
    exact ⟨ret8_2 hb.out, (below_a1 _ _).step hb1⟩
end Go.Proofs.YtceedmejmmoepaaDoor
