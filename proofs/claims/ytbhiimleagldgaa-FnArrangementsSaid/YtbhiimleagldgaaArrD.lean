/- The code of a basket, pairs and an arrangement, and of a basket and an arrangement alone: the model's functions and the program's. -/
import Derived.Test.YtbhiimleagldgaaArrB
namespace Go.Proofs.Ytbhiimleagldgaa
open Go.RowKit
set_option linter.unusedVariables false
set_option linter.unusedSimpArgs false

theorem arrCode_bad1 {b : BasketD} {xss : List (List Int)} {ps : List Int} (h : basketOk b = false) : arrCode b xss ps = 1 := by simp [arrCode, h]
theorem arrCode_bad2 {b : BasketD} {xss : List (List Int)} {ps : List Int} (h : pairsOk xss = false) : arrCode b xss ps = 1 := by simp [arrCode, h]
theorem arrCode_bad3 {b : BasketD} {xss : List (List Int)} {ps : List Int} (h1 : basketOk b = true) (h2 : pairsOk xss = true) (h : placesOk b ps = false) : arrCode b xss ps = 2 := by simp [arrCode, h, h1, h2]
theorem arrCode_bad4 {b : BasketD} {xss : List (List Int)} {ps : List Int} (h1 : basketOk b = true) (h2 : pairsOk xss = true) (h : ps.length ≠ xss.length) : arrCode b xss ps = 2 := by simp [arrCode, h, h1, h2]
theorem arrCode_good {b : BasketD} {xss : List (List Int)} {ps : List Int} (h1 : basketOk b = true) (h2 : pairsOk xss = true) (h3 : placesOk b ps = true) (h : ps.length = xss.length) : arrCode b xss ps = 0 := by simp [arrCode, h, h1, h2, h3]
theorem box_new (w : World) (b : BasketD) (t : TypeId) : BoxB (w.alloc (.cells #[.int .i64 b.bars, .int .i64 b.rise, .int .i64 b.fall, .int .i64 b.clear, .int .i64 b.near] t)) w.heap.size b := BoxB.new w b t

set_option maxRecDepth 100000 in
set_option maxHeartbeats 1600000 in
theorem code5_impl (b : BasketD) (A : Option Addr) (n c : Nat) (xss : List (List Int)) (B : Option Addr) (m d : Nat) (ps : List Int) {v : Int} (hv : arrCode b xss ps = v) (w : World) (h : IntSS w A n xss) (hn : n ≤ 1048576) (hp : Ints w B m ps) (hm : m ≤ 1048576) (hd : m ≤ d) :
    Calls Try.prog 25 #[.agg #[.int .i64 b.bars, .int .i64 b.rise, .int .i64 b.fall, .int .i64 b.clear, .int .i64 b.near], .slice A n c, .slice B m d] w fun e w' => e = .returned (.int .i64 v) ∧ Below w.heap.size w w' := by
  have hnew := Lib.hid (box_new w b 25)
  have hb0 := Lib.hid (below_a1 w (.cells #[.int .i64 b.bars, .int .i64 b.rise, .int .i64 b.fall, .int .i64 b.clear, .int .i64 b.near] 25))
  have hv0 := Lib.hid hv
  have hl := Lib.hid h.len
  have hpl := Lib.hid hp.1
  cases h1 : basketOk b with
  | false =>
    obtain rfl : v = 1 := by rw [← hv0.out, arrCode_bad1 h1]
    have hc1 := Lib.hid (fun W => ok_impl b h1 W)
    clear h1 hv hnew
    go_enter Try.func25, Try.ntmps25
    go_wp2_with fail
    refine (hc1.out _).mono ?_
    rintro e w1 ⟨rfl, hb1⟩
    go_wp2
    go_ret
    exact ⟨rfl, hb0.out.step hb1⟩
  | true =>
    have hc1 := Lib.hid (fun W => ok_impl b h1 W)
    cases h2 : pairsOk xss with
    | false =>
      obtain rfl : v = 1 := by rw [← hv0.out, arrCode_bad2 h2]
      have hc2 := Lib.hid (fun W (hW : IntSS W A n xss) => ok5_impl A n c xss h2 W hW hn)
      clear h1 h2 hv hnew
      go_enter Try.func25, Try.ntmps25
      go_wp2_with fail
      refine (hc1.out _).mono ?_
      rintro e w1 ⟨rfl, hb1⟩
      go_wp2_with fail
      refine (hc2.out _ ((h.below hb0.out).below hb1)).mono ?_
      rintro e w2 ⟨rfl, rfl⟩
      go_wp2
      go_ret
      exact ⟨rfl, hb0.out.step hb1⟩
    | true =>
      have hc2 := Lib.hid (fun W (hW : IntSS W A n xss) => ok5_impl A n c xss h2 W hW hn)
      by_cases hmn : m = n
      · subst hmn
        have hpo : placesOk b ps = arrB b [] ps := by
          have h9 := pairsOk_iff.1 h2
          have h8 : isIn (ps.length : Int) 1 7 = true := isIn_iff.2 (by rw [hpl.out]; have := hl.out; omega)
          rw [placesOk, h8, Bool.and_true]
        cases h3 : arrB b [] ps with
        | false =>
          obtain rfl : v = 2 := by rw [← hv0.out, arrCode_bad3 h1 h2 (by rw [hpo, h3])]
          have hc3 := Lib.hid (fun W (hW : Ints W B m ps) => arr_impl b B m d ps h3 W h1 hW hm hd)
          clear h1 h2 h3 hv hpo
          go_enter Try.func25, Try.ntmps25
          go_wp2_with fail
          refine (hc1.out _).mono ?_
          rintro e w1 ⟨rfl, hb1⟩
          go_wp2_with fail
          refine (hc2.out _ ((h.below hb0.out).below hb1)).mono ?_
          rintro e w2 ⟨rfl, rfl⟩
          obtain ⟨d0, d1, d2, d3, d4⟩ := hnew.out.step hb1
          go_wp2_with fail
          refine (hc3.out _ ((hp.below hb0.out).below hb1)).mono ?_
          rintro e w3 ⟨rfl, hb3⟩
          go_wp2
          go_ret
          exact ⟨rfl, (hb0.out.step hb1).step hb3⟩
        | true =>
          obtain rfl : v = 0 := by rw [← hv0.out, arrCode_good h1 h2 (by rw [hpo, h3]) (by rw [hl.out, hpl.out])]
          have hc3 := Lib.hid (fun W (hW : Ints W B m ps) => arr_impl b B m d ps h3 W h1 hW hm hd)
          clear h1 h2 h3 hv hpo
          go_enter Try.func25, Try.ntmps25
          go_wp2_with fail
          refine (hc1.out _).mono ?_
          rintro e w1 ⟨rfl, hb1⟩
          go_wp2_with fail
          refine (hc2.out _ ((h.below hb0.out).below hb1)).mono ?_
          rintro e w2 ⟨rfl, rfl⟩
          obtain ⟨d0, d1, d2, d3, d4⟩ := hnew.out.step hb1
          go_wp2_with fail
          refine (hc3.out _ ((hp.below hb0.out).below hb1)).mono ?_
          rintro e w3 ⟨rfl, hb3⟩
          go_wp2
          go_ret
          exact ⟨rfl, (hb0.out.step hb1).step hb3⟩
      · have hres : Hid (v = 2) := Lib.hid (by rw [← hv0.out, arrCode_bad4 h1 h2 (by rw [hl.out, hpl.out]; exact hmn)])
        have e1 : (m == n) = false := beq_eq_false_iff_ne.2 hmn
        have e2 : ((m : Int) == (n : Int)) = false := beq_eq_false_iff_ne.2 (by omega)
        clear h1 h2 hv hnew
        go_enter Try.func25, Try.ntmps25
        go_wp2_with fail
        refine (hc1.out _).mono ?_
        rintro e w1 ⟨rfl, hb1⟩
        go_wp2_with fail
        refine (hc2.out _ ((h.below hb0.out).below hb1)).mono ?_
        rintro e w2 ⟨rfl, rfl⟩
        go_wp2
        go_ret
        exact ⟨by rw [hres.out]; rfl, hb0.out.step hb1⟩

set_option maxRecDepth 100000 in
set_option maxHeartbeats 1600000 in
theorem codeP_impl (b : BasketD) (B : Option Addr) (m d : Nat) (ps : List Int) {v : Int} (hv : plCode b ps = v) (w : World) (hp : Ints w B m ps) (hm : m ≤ 1048576) (hd : m ≤ d) :
    Calls Try.prog 30 #[.agg #[.int .i64 b.bars, .int .i64 b.rise, .int .i64 b.fall, .int .i64 b.clear, .int .i64 b.near], .slice B m d] w fun e w' => e = .returned (.int .i64 v) ∧ Below w.heap.size w w' := by
  have hnew := Lib.hid (box_new w b 25)
  have hb0 := Lib.hid (below_a1 w (.cells #[.int .i64 b.bars, .int .i64 b.rise, .int .i64 b.fall, .int .i64 b.clear, .int .i64 b.near] 25))
  have hv0 := Lib.hid hv
  have hpl := Lib.hid hp.1
  cases h1 : basketOk b with
  | false =>
    obtain rfl : v = 1 := by rw [← hv0.out]; simp [plCode, h1]
    have hc1 := Lib.hid (fun W => ok_impl b h1 W)
    clear h1 hv hnew
    go_enter Try.func30, Try.ntmps30
    go_wp2_with fail
    refine (hc1.out _).mono ?_
    rintro e w1 ⟨rfl, hb1⟩
    go_wp2
    go_ret
    exact ⟨rfl, hb0.out.step hb1⟩
  | true =>
    have hc1 := Lib.hid (fun W => ok_impl b h1 W)
    cases h2 : isIn (m : Int) 1 7 with
    | false =>
      obtain rfl : v = 2 := by rw [← hv0.out]; simp [plCode, h1, placesOk, hpl.out, h2]
      have hc2 := Lib.hid (fun W => in_impl h2 W)
      clear h1 h2 hv hnew
      go_enter Try.func30, Try.ntmps30
      go_wp2_with fail
      refine (hc1.out _).mono ?_
      rintro e w1 ⟨rfl, hb1⟩
      go_wp2_with fail
      refine (hc2.out _).mono ?_
      rintro e w2 ⟨rfl, rfl⟩
      go_wp2
      go_ret
      exact ⟨rfl, hb0.out.step hb1⟩
    | true =>
      have hc2 := Lib.hid (fun W => in_impl h2 W)
      cases h3 : arrB b [] ps with
      | false =>
        obtain rfl : v = 2 := by rw [← hv0.out]; simp [plCode, h1, placesOk, hpl.out, h2, h3]
        have hc3 := Lib.hid (fun W (hW : Ints W B m ps) => arr_impl b B m d ps h3 W h1 hW hm hd)
        clear h1 h2 h3 hv
        go_enter Try.func30, Try.ntmps30
        go_wp2_with fail
        refine (hc1.out _).mono ?_
        rintro e w1 ⟨rfl, hb1⟩
        go_wp2_with fail
        refine (hc2.out _).mono ?_
        rintro e w2 ⟨rfl, rfl⟩
        obtain ⟨d0, d1, d2, d3, d4⟩ := hnew.out.step hb1
        go_wp2_with fail
        refine (hc3.out _ ((hp.below hb0.out).below hb1)).mono ?_
        rintro e w3 ⟨rfl, hb3⟩
        go_wp2
        go_ret
        exact ⟨rfl, (hb0.out.step hb1).step hb3⟩
      | true =>
        obtain rfl : v = 0 := by rw [← hv0.out]; simp [plCode, h1, placesOk, hpl.out, h2, h3]
        have hc3 := Lib.hid (fun W (hW : Ints W B m ps) => arr_impl b B m d ps h3 W h1 hW hm hd)
        clear h1 h2 h3 hv
        go_enter Try.func30, Try.ntmps30
        go_wp2_with fail
        refine (hc1.out _).mono ?_
        rintro e w1 ⟨rfl, hb1⟩
        go_wp2_with fail
        refine (hc2.out _).mono ?_
        rintro e w2 ⟨rfl, rfl⟩
        obtain ⟨d0, d1, d2, d3, d4⟩ := hnew.out.step hb1
        go_wp2_with fail
        refine (hc3.out _ ((hp.below hb0.out).below hb1)).mono ?_
        rintro e w3 ⟨rfl, hb3⟩
        go_wp2
        go_ret
        exact ⟨rfl, (hb0.out.step hb1).step hb3⟩
end Go.Proofs.Ytbhiimleagldgaa
