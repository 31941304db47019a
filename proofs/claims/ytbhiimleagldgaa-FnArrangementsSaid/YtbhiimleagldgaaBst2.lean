/- BestSwap and ImproveArrange: the model's functions and the program's. -/
import Derived.Test.YtbhiimleagldgaaBst1
import Derived.Test.YtbhiimleagldgaaSwp2
namespace Go.Proofs.Ytbhiimleagldgaa
open Go.RowKit
set_option linter.unusedVariables false
set_option linter.unusedSimpArgs false

set_option maxRecDepth 100000 in
set_option maxHeartbeats 1600000 in
theorem bs_impl (b : BasketD) (A : Option Addr) (n c : Nat) (xss : List (List Int)) (B : Option Addr) (m d : Nat) (ps : List Int) (w : World) (hb : b.good) (h : IntSS w A n xss) (hn : n ≤ 1048576) (hx : ∀ xs ∈ xss, issGood xs) (hp : Ints w B m ps) (hm : m ≤ 1048576) (hy : ∀ x ∈ ps, intGood x) :
    Calls Try.prog 13 #[.agg #[.int .i64 b.bars, .int .i64 b.rise, .int .i64 b.fall, .int .i64 b.clear, .int .i64 b.near], .slice A n c, .slice B m m] w fun e w' => e = .returned (.tuple #[.int .i64 (bestSwapOf b xss ps).1, .int .i64 (bestSwapOf b xss ps).2.1, .int .i64 (bestSwapOf b xss ps).2.2]) ∧ Below w.heap.size w w' := by
  generalize hr : bestSwapOf b xss ps = r
  replace hr := Lib.hid hr.symm
  have hnew := Lib.hid (box_new w b 25)
  have hb0 := Lib.hid (below_a1 w (.cells #[.int .i64 b.bars, .int .i64 b.rise, .int .i64 b.fall, .int .i64 b.clear, .int .i64 b.near] 25))
  have hl := Lib.hid h.len
  have hpl := Lib.hid hp.1
  by_cases h0 : arrCode b xss ps = 0
  · obtain ⟨h1, h2, h3, h4⟩ := arrCode_ok h0
    have hmn : m = n := by rw [← hpl.out, ← hl.out, h4]
    subst hmn
    have hc1 := Lib.hid (fun W (hW : IntSS W A m xss) (hP : Ints W B m ps) => code5_impl b A m c xss B m m ps h0 W hW hn hP hm (Nat.le_refl _))
    cases ho : bestB b xss ps with
    | none =>
      have hres : Hid (r = (0, 0, 3)) := Lib.hid (by rw [hr.out, bestSwapOf, if_pos h0, ho])
      have hc2 := Lib.hid (fun W (hW : IntSS W A m xss) (hP : Ints W B m ps) => best_impl b A m c xss B m ps ho W h1 h2 (placesOk_bars h3) hW hP)
      clear h0 h1 h2 h3 h4 hr hb hx hy ho
      go_enter Try.func13, Try.ntmps13
      go_wp2_with fail
      refine (hc1.out _ (h.below hb0.out) (hp.below hb0.out)).mono ?_
      rintro e w1 ⟨rfl, hb1⟩
      obtain ⟨d0, d1, d2, d3, d4⟩ := hnew.out.step hb1
      go_wp2_with fail
      refine (hc2.out _ ((h.below hb0.out).below hb1) ((hp.below hb0.out).below hb1)).mono ?_
      rintro e w2 ⟨rfl, hb2⟩
      simp only [fx, fy, gx, gy, Option.isSome]
      go_wp2
      go_ret3
      exact ⟨ret_i3 hres.out, (hb0.out.step hb1).step hb2⟩
    | some p =>
      obtain ⟨pi, pk⟩ := p
      have hres : Hid (r = ((pi : Int), (pk : Int), 0)) := Lib.hid (by rw [hr.out, bestSwapOf, if_pos h0, ho])
      have hc2 := Lib.hid (fun W (hW : IntSS W A m xss) (hP : Ints W B m ps) => best_impl b A m c xss B m ps ho W h1 h2 (placesOk_bars h3) hW hP)
      have hneg : decide ((pi : Int) < 0) = false := decide_eq_false (by omega)
      clear h0 h1 h2 h3 h4 hr hb hx hy ho
      go_enter Try.func13, Try.ntmps13
      go_wp2_with fail
      refine (hc1.out _ (h.below hb0.out) (hp.below hb0.out)).mono ?_
      rintro e w1 ⟨rfl, hb1⟩
      obtain ⟨d0, d1, d2, d3, d4⟩ := hnew.out.step hb1
      go_wp2_with fail
      refine (hc2.out _ ((h.below hb0.out).below hb1) ((hp.below hb0.out).below hb1)).mono ?_
      rintro e w2 ⟨rfl, hb2⟩
      simp only [fx, fy, gx, gy, Option.isSome]
      go_wp2
      go_ret3
      exact ⟨ret_i3 hres.out, (hb0.out.step hb1).step hb2⟩
  · have hres : Hid (r = (0, 0, arrCode b xss ps)) := Lib.hid (by rw [hr.out, bestSwapOf, if_neg h0])
    have hc1 := Lib.hid (fun W (hW : IntSS W A n xss) (hP : Ints W B m ps) => code5_impl b A n c xss B m m ps rfl W hW hn hP hm (Nat.le_refl _))
    have hcs := arrCode_cases b xss ps
    generalize arrCode b xss ps = q at *
    have hq0 : (q == 0) = false := by simpa using h0
    clear h0 hr hb hx hy
    rcases hcs with rfl | rfl | rfl
    · simp at hq0
    · clear hq0
      go_enter Try.func13, Try.ntmps13
      go_wp2_with fail
      refine (hc1.out _ (h.below hb0.out) (hp.below hb0.out)).mono ?_
      rintro e w1 ⟨rfl, hb1⟩
      go_wp2
      go_ret3
      exact ⟨ret_i3 hres.out, hb0.out.step hb1⟩
    · clear hq0
      go_enter Try.func13, Try.ntmps13
      go_wp2_with fail
      refine (hc1.out _ (h.below hb0.out) (hp.below hb0.out)).mono ?_
      rintro e w1 ⟨rfl, hb1⟩
      go_wp2
      go_ret3
      exact ⟨ret_i3 hres.out, hb0.out.step hb1⟩
end Go.Proofs.Ytbhiimleagldgaa
