/- Ribbons: the model's StrokesUntil. -/
import Derived.Test.YtceedmejmmoepaaDoorRb6
namespace Go.Proofs.YtceedmejmmoepaaDoor
open Go.RowKit Go.ChangeShapes Go.WideShapes Go.Deep
set_option linter.unusedVariables false
set_option linter.unusedSimpArgs false

def suR (r : RibbonD) (l : Int) : Int × Int := if rlC r l = 0 then (if 100000 < untilN r l then (0, 5) else ((untilN r l : Int), 0)) else (0, rlC r l)
set_option maxHeartbeats 1600000 in
theorem su14_spec (r : RibbonD) (n : Int) (w : World) (hg : r.good) (hwf : (Lit.int .i64 n).wf = true) :
    Calls Tryd.prog 7 #[.agg #[.int .i64 r.spots, .int .i64 r.ink, .int .i64 r.takes], .int .i64 n] w fun e w' => e = .returned (.tuple #[.int .i64 (suR r n).1, .int .i64 (suR r n).2]) ∧ Below w.heap.size w w' := by
  clear hg hwf
  generalize hr : suR r n = q
  replace hr := Lib.hid hr.symm
  have hc := Lib.hid (fun v h W => least14 r n (v := v) h W)
  by_cases h1 : rlC r n = 0
  · obtain ⟨hok, h0, h2⟩ := rlC_ok h1
    have hs := Lib.hid (fun W => until14 r hok n rfl W)
    have hc1 := Lib.hid (fun W => hc.out _ h1 W)
    obtain ⟨u, hu⟩ : ∃ u, untilN r n = u := ⟨_, rfl⟩
    have hb : Hid (q = if 100000 < u then (0, 5) else ((u : Int), 0)) := Lib.hid (by rw [hr.out, suR, if_pos h1, hu])
    rw [hu] at hs
    clear h1 hr hc hok h0 h2 hu
    obtain ⟨S, I, K⟩ := r
    by_cases h3 : 100000 < u
    · have hb2 : Hid (q = (0, 5)) := Lib.hid (by rw [hb.out, if_pos h3])
      have e1 : decide ((100000 : Int) < (u : Int)) = true := decide_eq_true (by omega)
      have e2 : decide (100000 < u) = true := decide_eq_true h3
      clear h3
      go_enter Tryd.func7, Tryd.ntmps7
      go_wp2_with fail
      refine (hc1.out _).mono ?_
      rintro e w1 ⟨rfl, hb1⟩
      obtain ⟨q0, q1, q2⟩ := (Box3r.new w _ (.int .i64 S) (.int .i64 I) (.int .i64 K)).step hb1
      go_wp2_with fail
      refine (hs.out _).mono ?_
      rintro e w2 ⟨rfl, hb3⟩
      go_wp2
      go_ret2
      exact ⟨ret8_2 hb2.out, ((below_a1 _ _).step hb1).step hb3⟩
    · have hb2 : Hid (q = ((u : Int), 0)) := Lib.hid (by rw [hb.out, if_neg h3])
      have e1 : decide ((100000 : Int) < (u : Int)) = false := decide_eq_false (by omega)
      have e2 : decide (100000 < u) = false := decide_eq_false h3
      clear h3
      go_enter Tryd.func7, Tryd.ntmps7
      go_wp2_with fail
      refine (hc1.out _).mono ?_
      rintro e w1 ⟨rfl, hb1⟩
      obtain ⟨q0, q1, q2⟩ := (Box3r.new w _ (.int .i64 S) (.int .i64 I) (.int .i64 K)).step hb1
      go_wp2_with fail
      refine (hs.out _).mono ?_
      rintro e w2 ⟨rfl, hb3⟩
      go_wp2
      go_ret2
      exact ⟨ret8_2 hb2.out, ((below_a1 _ _).step hb1).step hb3⟩
  · have hb : Hid (q = (0, rlC r n)) := Lib.hid (by rw [hr.out, suR, if_neg h1])
    have hc1 := Lib.hid (fun W => hc.out _ rfl W)
    generalize rlC r n = g at *
    have y1 : (g == 0) = false := beq_eq_false_iff_ne.2 h1
    have y2 : (g != 0) = true := by rw [bne, y1]; rfl
    clear h1 hr hc
    obtain ⟨S, I, K⟩ := r
    go_enter Tryd.func7, Tryd.ntmps7
    go_wp2_with fail
    refine (hc1.out _).mono ?_
    rintro e w1 ⟨rfl, hb1⟩
    go_wp2
    go_ret2
    exact ⟨ret8_2 hb.out, (below_a1 _ _).step hb1⟩
end Go.Proofs.YtceedmejmmoepaaDoor
