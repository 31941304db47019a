/- The program's functions on arrangements, over slices of whatever capacity. -/
import Derived.Test.YtbhiimleagldgaaArrF
import Derived.Test.YtbhiimleagldgaaBst2
import Derived.Test.YtbhiimleagldgaaImp
import Derived.Test.YtbhiimleagldgaaMir
namespace Go.Proofs.Ytbhiimleagldgaa
open Go.RowKit
set_option linter.unusedVariables false
set_option linter.unusedSimpArgs false

/-- A slice that the call owns, with its capacity, and a code. -/
def SwOutC (r : List Int × Int) (w : World) (e : Ending) (w' : World) : Prop :=
  ∃ A n c, e = .returned (.tuple #[.slice A n c, .int .i64 r.2]) ∧ n ≤ 1048576 ∧ n ≤ c ∧ OInts w' w.heap.size A n r.1 ∧ Below w.heap.size w w'
theorem SwOutC.bad {r : List Int × Int} {w w' : World} {code : Int} (hr : r = ([], code)) (hb : Below w.heap.size w w') : SwOutC r w (.returned (.tuple #[.slice none 0 0, .int .i64 code])) w' := by
  subst hr
  exact ⟨none, 0, 0, rfl, by omega, by omega, ORow.nil_, hb⟩

set_option maxRecDepth 100000 in
set_option maxHeartbeats 1600000 in
theorem ac_implC (b : BasketD) (A : Option Addr) (n c : Nat) (xss : List (List Int)) (B : Option Addr) (m d : Nat) (ps : List Int) (w : World) (hb : b.good) (h : IntSS w A n xss) (hn : n ≤ 1048576) (hx : ∀ xs ∈ xss, issGood xs) (hp : Ints w B m ps) (hm : m ≤ 1048576) (hcap : m ≤ d) :
    Calls Try.prog 9 #[.agg #[.int .i64 b.bars, .int .i64 b.rise, .int .i64 b.fall, .int .i64 b.clear, .int .i64 b.near], .slice A n c, .slice B m d] w fun e w' => e = .returned (.tuple #[.int .i64 (arrangeCost b xss ps).1, .int .i64 (arrangeCost b xss ps).2]) ∧ Below w.heap.size w w' := by
  generalize hr : arrangeCost b xss ps = r
  replace hr := Lib.hid hr.symm
  have hnew := Lib.hid (box_new w b 25)
  have hb0 := Lib.hid (below_a1 w (.cells #[.int .i64 b.bars, .int .i64 b.rise, .int .i64 b.fall, .int .i64 b.clear, .int .i64 b.near] 25))
  have hl := Lib.hid h.len
  have hpl := Lib.hid hp.1
  by_cases h0 : arrCode b xss ps = 0
  · obtain ⟨h1, h2, h3, h4⟩ := arrCode_ok h0
    have hmn : m = n := by rw [← hpl.out, ← hl.out, h4]
    subst hmn
    have hres : Hid (r = (costI b xss ps, 0)) := Lib.hid (by rw [hr.out, arrangeCost, if_pos h0])
    have hc1 := Lib.hid (fun W (hW : IntSS W A m xss) (hP : Ints W B m ps) => code5_impl b A m c xss B m d ps h0 W hW hn hP hm hcap)
    have hc2 := Lib.hid (fun W (hW : IntSS W A m xss) (hP : Ints W B m ps) => cost_impl b A m c xss B d ps W h1 h2 (placesOk_bars h3) hW hP)
    clear h0 h1 h2 h3 h4 hr hb hx
    go_enter Try.func9, Try.ntmps9
    go_wp2_with fail
    refine (hc1.out _ (h.below hb0.out) (hp.below hb0.out)).mono ?_
    rintro e w1 ⟨rfl, hb1⟩
    obtain ⟨d0, d1, d2, d3, d4⟩ := hnew.out.step hb1
    go_wp2_with fail
    refine (hc2.out _ ((h.below hb0.out).below hb1) ((hp.below hb0.out).below hb1)).mono ?_
    rintro e w2 ⟨rfl, hb2⟩
    go_wp2
    go_ret2
    exact ⟨ret_i2 hres.out, (hb0.out.step hb1).step hb2⟩
  · have hres : Hid (r = (0, arrCode b xss ps)) := Lib.hid (by rw [hr.out, arrangeCost, if_neg h0])
    have hc1 := Lib.hid (fun W (hW : IntSS W A n xss) (hP : Ints W B m ps) => code5_impl b A n c xss B m d ps rfl W hW hn hP hm hcap)
    have hcs := arrCode_cases b xss ps
    generalize arrCode b xss ps = q at *
    have hq0 : (q == 0) = false := by simpa using h0
    clear h0 hr hb hx
    rcases hcs with rfl | rfl | rfl
    · simp at hq0
    · clear hq0
      go_enter Try.func9, Try.ntmps9
      go_wp2_with fail
      refine (hc1.out _ (h.below hb0.out) (hp.below hb0.out)).mono ?_
      rintro e w1 ⟨rfl, hb1⟩
      go_wp2
      go_ret2
      exact ⟨ret_i2 hres.out, hb0.out.step hb1⟩
    · clear hq0
      go_enter Try.func9, Try.ntmps9
      go_wp2_with fail
      refine (hc1.out _ (h.below hb0.out) (hp.below hb0.out)).mono ?_
      rintro e w1 ⟨rfl, hb1⟩
      go_wp2
      go_ret2
      exact ⟨ret_i2 hres.out, hb0.out.step hb1⟩
set_option maxRecDepth 100000 in
set_option maxHeartbeats 1600000 in
theorem bs_implC (b : BasketD) (A : Option Addr) (n c : Nat) (xss : List (List Int)) (B : Option Addr) (m d : Nat) (ps : List Int) (w : World) (hb : b.good) (h : IntSS w A n xss) (hn : n ≤ 1048576) (hx : ∀ xs ∈ xss, issGood xs) (hp : Ints w B m ps) (hm : m ≤ 1048576) (hcap : m ≤ d) :
    Calls Try.prog 13 #[.agg #[.int .i64 b.bars, .int .i64 b.rise, .int .i64 b.fall, .int .i64 b.clear, .int .i64 b.near], .slice A n c, .slice B m d] w fun e w' => e = .returned (.tuple #[.int .i64 (bestSwapOf b xss ps).1, .int .i64 (bestSwapOf b xss ps).2.1, .int .i64 (bestSwapOf b xss ps).2.2]) ∧ Below w.heap.size w w' := by
  generalize hr : bestSwapOf b xss ps = r
  replace hr := Lib.hid hr.symm
  have hnew := Lib.hid (box_new w b 25)
  have hb0 := Lib.hid (below_a1 w (.cells #[.int .i64 b.bars, .int .i64 b.rise, .int .i64 b.fall, .int .i64 b.clear, .int .i64 b.near] 25))
  have hl := Lib.hid h.len
  have hpl := Lib.hid hp.1
  by_cases h0 : arrCode b xss ps = 0
  · obtain ⟨h1, h2, h3, h4⟩ := arrCode_ok h0
    have hmn : m = n := by rw [← hpl.out, ← hl.out, h4]
    subst hmn
    have hc1 := Lib.hid (fun W (hW : IntSS W A m xss) (hP : Ints W B m ps) => code5_impl b A m c xss B m d ps h0 W hW hn hP hm hcap)
    cases ho : bestB b xss ps with
    | none =>
      have hres : Hid (r = (0, 0, 3)) := Lib.hid (by rw [hr.out, bestSwapOf, if_pos h0, ho])
      have hc2 := Lib.hid (fun W (hW : IntSS W A m xss) (hP : Ints W B m ps) => best_impl b A m c xss B d ps ho W h1 h2 (placesOk_bars h3) hW hP)
      clear h0 h1 h2 h3 h4 hr hb hx ho
      go_enter Try.func13, Try.ntmps13
      go_wp2_with fail
      refine (hc1.out _ (h.below hb0.out) (hp.below hb0.out)).mono ?_
      rintro e w1 ⟨rfl, hb1⟩
      obtain ⟨d0, d1, d2, d3, d4⟩ := hnew.out.step hb1
      go_wp2_with fail
      refine (hc2.out _ ((h.below hb0.out).below hb1) ((hp.below hb0.out).below hb1)).mono ?_
      rintro e w2 ⟨rfl, hb2⟩
      simp only [fx, fy, gx, gy, Option.isSome]
      go_wp2
      go_ret3
      exact ⟨ret_i3 hres.out, (hb0.out.step hb1).step hb2⟩
    | some p =>
      obtain ⟨pi, pk⟩ := p
      have hres : Hid (r = ((pi : Int), (pk : Int), 0)) := Lib.hid (by rw [hr.out, bestSwapOf, if_pos h0, ho])
      have hc2 := Lib.hid (fun W (hW : IntSS W A m xss) (hP : Ints W B m ps) => best_impl b A m c xss B d ps ho W h1 h2 (placesOk_bars h3) hW hP)
      have hneg : decide ((pi : Int) < 0) = false := decide_eq_false (by omega)
      clear h0 h1 h2 h3 h4 hr hb hx ho
      go_enter Try.func13, Try.ntmps13
      go_wp2_with fail
      refine (hc1.out _ (h.below hb0.out) (hp.below hb0.out)).mono ?_
      rintro e w1 ⟨rfl, hb1⟩
      obtain ⟨d0, d1, d2, d3, d4⟩ := hnew.out.step hb1
      go_wp2_with fail
      refine (hc2.out _ ((h.below hb0.out).below hb1) ((hp.below hb0.out).below hb1)).mono ?_
      rintro e w2 ⟨rfl, hb2⟩
      simp only [fx, fy, gx, gy, Option.isSome]
      go_wp2
      go_ret3
      exact ⟨ret_i3 hres.out, (hb0.out.step hb1).step hb2⟩
  · have hres : Hid (r = (0, 0, arrCode b xss ps)) := Lib.hid (by rw [hr.out, bestSwapOf, if_neg h0])
    have hc1 := Lib.hid (fun W (hW : IntSS W A n xss) (hP : Ints W B m ps) => code5_impl b A n c xss B m d ps rfl W hW hn hP hm hcap)
    have hcs := arrCode_cases b xss ps
    generalize arrCode b xss ps = q at *
    have hq0 : (q == 0) = false := by simpa using h0
    clear h0 hr hb hx
    rcases hcs with rfl | rfl | rfl
    · simp at hq0
    · clear hq0
      go_enter Try.func13, Try.ntmps13
      go_wp2_with fail
      refine (hc1.out _ (h.below hb0.out) (hp.below hb0.out)).mono ?_
      rintro e w1 ⟨rfl, hb1⟩
      go_wp2
      go_ret3
      exact ⟨ret_i3 hres.out, hb0.out.step hb1⟩
    · clear hq0
      go_enter Try.func13, Try.ntmps13
      go_wp2_with fail
      refine (hc1.out _ (h.below hb0.out) (hp.below hb0.out)).mono ?_
      rintro e w1 ⟨rfl, hb1⟩
      go_wp2
      go_ret3
      exact ⟨ret_i3 hres.out, hb0.out.step hb1⟩
set_option maxRecDepth 100000 in
set_option maxHeartbeats 1600000 in
theorem im_implC (b : BasketD) (A : Option Addr) (n c : Nat) (xss : List (List Int)) (B : Option Addr) (m d : Nat) (ps : List Int) (w : World) (hb : b.good) (h : IntSS w A n xss) (hn : n ≤ 1048576) (hx : ∀ xs ∈ xss, issGood xs) (hp : Ints w B m ps) (hm : m ≤ 1048576) (hcap : m ≤ d) :
    Calls Try.prog 12 #[.agg #[.int .i64 b.bars, .int .i64 b.rise, .int .i64 b.fall, .int .i64 b.clear, .int .i64 b.near], .slice A n c, .slice B m d] w (SwOutC (improveOf b xss ps) w) := by
  generalize hr : improveOf b xss ps = r
  replace hr := Lib.hid hr.symm
  have hnew := Lib.hid (box_new w b 25)
  have hb0 := Lib.hid (below_a1 w (.cells #[.int .i64 b.bars, .int .i64 b.rise, .int .i64 b.fall, .int .i64 b.clear, .int .i64 b.near] 25))
  have hl := Lib.hid h.len
  have hpl := Lib.hid hp.1
  clear hb hx
  by_cases h0 : arrCode b xss ps = 0
  · obtain ⟨h1, h2, h3, h4⟩ := arrCode_ok h0
    have hmn : m = n := by rw [← hpl.out, ← hl.out, h4]
    subst hmn
    have hc1 := Lib.hid (fun W (hW : IntSS W A m xss) (hP : Ints W B m ps) => code5_impl b A m c xss B m d ps h0 W hW hn hP hm hcap)
    have hres : Hid (r = (improveL b xss ps, 0)) := Lib.hid (by rw [hr.out, improveOf, if_pos h0])
    have hbest := Lib.hid (fun (C : Option Addr) (e : Nat) (qs : List Int) (o : Option (Nat × Nat)) (ho : bestB b xss qs = o) W (hq : ∀ (i : Nat) (x : Int), qs[i]? = some x → hasBar b x = true) (hW : IntSS W A m xss) (hC : Ints W C m qs) => best_impl b A m c xss C e qs ho W h1 h2 hq hW hC)
    have hpos := Lib.hid (fun (qs : List Int) => (costTo_range h1 h2 qs xss.length (pairsOk_iff.1 h2).1.2).1)
    have hbars := Lib.hid (placesOk_bars h3)
    have hm0 := (placesOk_len h3).1
    rw [hpl.out] at hm0
    clear h0 h1 h2 h3 h4 hr
    go_enter Try.func12, Try.ntmps12
    go_wp2_with fail
    refine (hc1.out _ (h.below hb0.out) (hp.below hb0.out)).mono ?_
    rintro e w1 ⟨rfl, hb1⟩
    go_wp2_with fail
    refine (clone_impl B m d ps _ ((hp.below hb0.out).below hb1) hm0 hm).mono ?_
    rintro e w2 ⟨g0, d0, rfl, hd0, hO0, hb2⟩
    have hbel := Lib.hid ((hb0.out.step hb1).step hb2)
    have hbox := Lib.hid ((hnew.out.step hb1).step hb2)
    have hS2 := ((h.below hb0.out).below hb1).below hb2
    have hO2 := Lib.hid (hO0.mono (Nat.le_trans hb0.out.size hb1.size) : OInts w2 w.heap.size (some ⟨g0, 0, none⟩) m ps)
    clear hb1 hb2 hO0 hc1 h hp hnew
    go_wp2
    go_loopw [9] (fun v wr => ∃ (g e : Nat) (qs : List Int) (f : Nat), v = .slice (some ⟨g, 0, none⟩) m e ∧ m ≤ e ∧ OInts wr w.heap.size (some ⟨g, 0, none⟩) m qs ∧ (∀ (i : Nat) (x : Int), qs[i]? = some x → hasBar b x = true) ∧ improveL b xss ps = improveF b xss f qs ∧ (costI b xss qs).toNat < f ∧ Below w2.heap.size w2 wr) (fun v wr => (costI b xss (readI wr v)).toNat)
    case atStart => exact ⟨g0, d0, ps, (costI b xss ps).toNat + 1, rfl, hd0, hO2.out, hbars.out, rfl, by omega, Below.refl _ _⟩
    case round =>
      obtain ⟨g, e, qs, f, rfl, he, hO, hqb, hF, hlt, hbo⟩ := hrel
      replace hF := Lib.hid hF
      have hrd := Lib.hid (readI_of (c := e) hO.srow)
      have hql := Lib.hid hO.1
      have hqb' := Lib.hid hqb
      obtain ⟨x0, x1, x2, x3, x4⟩ := hbox.out.step hbo
      cases ho : bestB b xss qs with
      | none =>
        have hfin : Hid (r.1 = qs) := Lib.hid (by rw [hres.out]; show improveL b xss ps = qs; rw [hF.out, improveF_none (by omega) ho])
        have hc2 := Lib.hid (hbest.out (some ⟨g, 0, none⟩) e qs none ho wr hqb (hS2.below hbo) hO.srow)
        clear ho hqb
        go_wp2_with fail
        refine (hc2.out).mono ?_
        rintro e w3 ⟨rfl, hb3⟩
        have hO3 := Lib.hid (hO.below hb3)
        simp only [fx, fy, gx, gy, Option.isSome]
        clear hO
        have hcode : Hid (r.2 = 0) := Lib.hid (by rw [hres.out])
        go_wp2
        go_ret2
        exact ⟨_, m, _, by rw [hcode.out]; rfl, hm, he, by rw [hfin.out]; exact hO3.out, (hbel.out.step hbo).step hb3⟩
      | some p =>
        obtain ⟨i, k⟩ := p
        obtain ⟨i1, i2, i3⟩ := bestB_some ho
        rw [hql.out] at i2
        have hi' : i < qs.length := by rw [hql.out]; omega
        have hk' : k < qs.length := by rw [hql.out]; omega
        obtain ⟨f', rfl⟩ : ∃ f', f = f' + 1 := ⟨f - 1, by omega⟩
        have hF2 : Hid (improveL b xss ps = improveF b xss f' (swapL qs i k)) := Lib.hid (by rw [hF.out, improveF_some ho])
        have hpc := hpos.out (swapL qs i k)
        have hpc : 0 ≤ costI b xss (swapL qs i k) := hpc
        have hlt2 : (costI b xss (swapL qs i k)).toNat < f' := by omega
        have hdec : Hid ((costI b xss (swapL qs i k)).toNat < (costI b xss qs).toNat) := Lib.hid (by omega)
        have hsb := Lib.hid (swapL_bars hi' hk' hqb)
        have hc2 := Lib.hid (hbest.out (some ⟨g, 0, none⟩) e qs (some (i, k)) ho wr hqb (hS2.below hbo) hO.srow)
        have hc3 := Lib.hid (fun W (hW : Ints W (some ⟨g, 0, none⟩) m qs) => swap_impl (some ⟨g, 0, none⟩) m e qs i k _ _ W hW hm (List.getElem?_eq_getElem hi') (List.getElem?_eq_getElem hk'))
        have hneg : decide ((i : Int) < 0) = false := decide_eq_false (by omega)
        clear ho hqb i1 i2 i3 hi' hk' hpc
        go_wp2_with fail
        refine (hc2.out).mono ?_
        rintro e w3 ⟨rfl, hb3⟩
        simp only [fx, fy, gx, gy, Option.isSome]
        go_wp2_with fail
        refine (hc3.out _ (hO.srow.below hb3)).mono ?_
        rintro e w4 ⟨g4, d4, rfl, hd4, hO4, hb4⟩
        have hO5 := Lib.hid (hO4.mono (Nat.le_trans (hbel.out.step hbo).size hb3.size) : OInts w4 w.heap.size (some ⟨g4, 0, none⟩) m (swapL qs i k))
        have hbo4 := Lib.hid ((hbo.step hb3).step hb4)
        have hrd4 := Lib.hid (readI_of (c := d4) hO4.srow)
        clear hO hO4 hb3 hb4
        go_wp2
        go_roundw
        case rel => exact ⟨g4, d4, swapL qs i k, f', rfl, hd4, hO5.out, hsb.out, hF2.out, hlt2, hbo4.out⟩
        case measure =>
          show (costI b xss (readI w4 (.slice (some ⟨g4, 0, none⟩) m d4))).toNat < (costI b xss (readI wr (.slice (some ⟨g, 0, none⟩) m e))).toNat
          rw [hrd.out, hrd4.out]
          exact hdec.out
  · have hres : Hid (r = ([], arrCode b xss ps)) := Lib.hid (by rw [hr.out, improveOf, if_neg h0])
    have hc1 := Lib.hid (fun W (hW : IntSS W A n xss) (hP : Ints W B m ps) => code5_impl b A n c xss B m d ps rfl W hW hn hP hm hcap)
    have hcs := arrCode_cases b xss ps
    generalize arrCode b xss ps = q at *
    have hq0 : (q == 0) = false := by simpa using h0
    clear h0 hr
    rcases hcs with rfl | rfl | rfl
    · simp at hq0
    · clear hq0
      go_enter Try.func12, Try.ntmps12
      go_wp2_with fail
      refine (hc1.out _ (h.below hb0.out) (hp.below hb0.out)).mono ?_
      rintro e w1 ⟨rfl, hb1⟩
      go_wp2
      go_ret2
      exact SwOutC.bad hres.out (hb0.out.step hb1)
    · clear hq0
      go_enter Try.func12, Try.ntmps12
      go_wp2_with fail
      refine (hc1.out _ (h.below hb0.out) (hp.below hb0.out)).mono ?_
      rintro e w1 ⟨rfl, hb1⟩
      go_wp2
      go_ret2
      exact SwOutC.bad hres.out (hb0.out.step hb1)
set_option maxRecDepth 100000 in
set_option maxHeartbeats 1600000 in
theorem sw_implC (b : BasketD) (A : Option Addr) (n c : Nat) (ps : List Int) (i k : Int) (w : World) (hb : b.good) (h : Ints w A n ps) (hn : n ≤ 1048576) (hcap : n ≤ c) (hi : (Lit.int .i64 i).wf = true) (hk : (Lit.int .i64 k).wf = true) :
    Calls Try.prog 14 #[.agg #[.int .i64 b.bars, .int .i64 b.rise, .int .i64 b.fall, .int .i64 b.clear, .int .i64 b.near], .slice A n c, .int .i64 i, .int .i64 k] w (SwOutC (swapLetters b ps i k) w) := by
  generalize hr : swapLetters b ps i k = r
  replace hr := Lib.hid hr.symm
  have hb0 := Lib.hid (below_a1 w (.cells #[.int .i64 b.bars, .int .i64 b.rise, .int .i64 b.fall, .int .i64 b.clear, .int .i64 b.near] 25))
  have hl := Lib.hid h.1
  have hS := h.below hb0.out
  clear hi hk hb
  by_cases h0 : plCode b ps = 0
  · obtain ⟨h1, h2⟩ := plCode_ok h0
    have hc1 := Lib.hid (fun W (hW : Ints W A n ps) => codeP_impl b A n c ps h0 W hW hn hcap)
    obtain ⟨n1, n7⟩ := placesOk_len h2
    rw [hl.out] at n1 n7
    have hr0 : Hid (r = if (isIn i 0 ((n : Int) - 1) && isIn k 0 ((n : Int) - 1)) = true then (swapL ps i.toNat k.toNat, 0) else ([], 2)) := Lib.hid (by rw [hr.out, swapLetters, if_pos h0, hl.out])
    have hw0 : IntKind.i64.wrap ((n : Int) - 1) = (n : Int) - 1 := IntWalk.i64_in _ (by omega)
    have n1' : (1 : Int) ≤ (n : Int) := by omega
    clear h0 h1 h2 hr
    cases h3 : isIn i 0 ((n : Int) - 1) with
    | false =>
      have hres : Hid (r = ([], 2)) := Lib.hid (by rw [hr0.out]; simp [h3])
      have hc3 := Lib.hid (fun W => in_impl h3 W)
      clear h3 hr0
      go_enter Try.func14, Try.ntmps14
      go_wp2_with fail
      refine (hc1.out _ hS).mono ?_
      rintro e w1 ⟨rfl, hb1⟩
      go_wp2_with fail
      refine (hc3.out _).mono ?_
      rintro e w3 ⟨rfl, rfl⟩
      go_wp2
      go_ret2
      exact SwOutC.bad hres.out (hb0.out.step hb1)
    | true =>
      have hc3 := Lib.hid (fun W => in_impl h3 W)
      cases h4 : isIn k 0 ((n : Int) - 1) with
      | false =>
        have hres : Hid (r = ([], 2)) := Lib.hid (by rw [hr0.out]; simp [h3, h4])
        have hc4 := Lib.hid (fun W => in_impl h4 W)
        clear h3 h4 hr0
        go_enter Try.func14, Try.ntmps14
        go_wp2_with fail
        refine (hc1.out _ hS).mono ?_
        rintro e w1 ⟨rfl, hb1⟩
        go_wp2_with fail
        refine (hc3.out _).mono ?_
        rintro e w3 ⟨rfl, rfl⟩
        go_wp2_with fail
        refine (hc4.out _).mono ?_
        rintro e w4 ⟨rfl, rfl⟩
        go_wp2
        go_ret2
        exact SwOutC.bad hres.out (hb0.out.step hb1)
      | true =>
        have hc4 := Lib.hid (fun W => in_impl h4 W)
        obtain ⟨i0, i1⟩ := isIn_iff.1 h3
        obtain ⟨k0, k1⟩ := isIn_iff.1 h4
        have hres0 : r = (swapL ps i.toNat k.toNat, 0) := by rw [hr0.out]; simp [h3, h4]
        obtain ⟨i', rfl⟩ : ∃ i' : Nat, i = (i' : Int) := ⟨i.toNat, by omega⟩
        obtain ⟨k', rfl⟩ : ∃ k' : Nat, k = (k' : Int) := ⟨k.toNat, by omega⟩
        have hres : Hid (r = (swapL ps i' k', 0)) := Lib.hid (by rw [hres0]; rfl)
        have hci := Lib.hid (fun W (hW : Ints W A n ps) => swap_impl A n c ps i' k' _ _ W hW hn (List.getElem?_eq_getElem (by rw [hl.out]; omega)) (List.getElem?_eq_getElem (by rw [hl.out]; omega)))
        clear h3 h4 hr0 hres0
        go_enter Try.func14, Try.ntmps14
        go_wp2_with fail
        refine (hc1.out _ hS).mono ?_
        rintro e w1 ⟨rfl, hb1⟩
        go_wp2_with fail
        refine (hc3.out _).mono ?_
        rintro e w3 ⟨rfl, rfl⟩
        go_wp2_with fail
        refine (hc4.out _).mono ?_
        rintro e w4 ⟨rfl, rfl⟩
        go_wp2_with fail
        refine (hci.out _ (hS.below hb1)).mono ?_
        rintro e w5 ⟨g, d, rfl, hd, hO, hb5⟩
        have hfin := Lib.hid (show OInts w5 w.heap.size _ n r.1 by rw [hres.out]; exact hO.mono (hb0.out.step hb1).size)
        have hbel := Lib.hid ((hb0.out.step hb1).step hb5)
        clear hO hb5
        have hcode : Hid (r.2 = 0) := Lib.hid (by rw [hres.out])
        go_wp2
        go_ret2
        exact ⟨_, _, _, by rw [hcode.out]; rfl, by omega, hd, hfin.out, hbel.out⟩
  · have hres : Hid (r = ([], plCode b ps)) := Lib.hid (by rw [hr.out, swapLetters, if_neg h0])
    have hc1 := Lib.hid (fun W (hW : Ints W A n ps) => codeP_impl b A n c ps rfl W hW hn hcap)
    have hcs := plCode_cases b ps
    generalize plCode b ps = q at *
    have hq0 : (q == 0) = false := by simpa using h0
    clear h0 hr
    rcases hcs with rfl | rfl | rfl
    · simp at hq0
    · clear hq0
      go_enter Try.func14, Try.ntmps14
      go_wp2_with fail
      refine (hc1.out _ hS).mono ?_
      rintro e w1 ⟨rfl, hb1⟩
      go_wp2
      go_ret2
      exact SwOutC.bad hres.out (hb0.out.step hb1)
    · clear hq0
      go_enter Try.func14, Try.ntmps14
      go_wp2_with fail
      refine (hc1.out _ hS).mono ?_
      rintro e w1 ⟨rfl, hb1⟩
      go_wp2
      go_ret2
      exact SwOutC.bad hres.out (hb0.out.step hb1)
set_option maxRecDepth 100000 in
set_option maxHeartbeats 1600000 in
theorem mir_implC (b : BasketD) (A : Option Addr) (n c : Nat) (ps : List Int) (w : World) (hb : b.good) (h : Ints w A n ps) (hn : n ≤ 1048576) (hcap : n ≤ c) :
    Calls Try.prog 11 #[.agg #[.int .i64 b.bars, .int .i64 b.rise, .int .i64 b.fall, .int .i64 b.clear, .int .i64 b.near], .slice A n c] w (SwOutC (mirrorArrange b ps) w) := by
  generalize hr : mirrorArrange b ps = r
  replace hr := Lib.hid hr.symm
  have hnew := Lib.hid (box_new w b 25)
  have hb0 := Lib.hid (below_a1 w (.cells #[.int .i64 b.bars, .int .i64 b.rise, .int .i64 b.fall, .int .i64 b.clear, .int .i64 b.near] 25))
  have hl := Lib.hid h.1
  have hS := h.below hb0.out
  clear hb
  by_cases h0 : plCode b ps = 0
  · obtain ⟨h1, h2⟩ := plCode_ok h0
    have hc1 := Lib.hid (fun W (hW : Ints W A n ps) => codeP_impl b A n c ps h0 W hW hn hcap)
    obtain ⟨n1, n7⟩ := placesOk_len h2
    rw [hl.out] at n1 n7
    have hres : Hid (r = (mirL b ps, 0)) := Lib.hid (by rw [hr.out, mirrorArrange, if_pos h0])
    obtain ⟨⟨q0, q1⟩, _⟩ := basketOk_iff.1 h1
    have hbars := Lib.hid (placesOk_bars h2)
    obtain ⟨i0, hi, hz0, hz1, hz2⟩ := info_parts Try.infoI64
    have hmk := fun W => run_make_many (P := Try.prog) 29 2 i0 _ Try.underlying29 hi hz0 .i64 .i64 n (by rw [hz2]; omega) (by omega) W
    rw [hz1] at hmk
    clear h0 h1 h2 hr h
    go_enter Try.func11, Try.ntmps11
    go_wp2_with fail
    refine (hc1.out _ hS).mono ?_
    rintro e w1 ⟨rfl, hb1⟩
    have hbel := Lib.hid (hb0.out.step hb1)
    have hbox := Lib.hid (hnew.out.step hb1)
    have hS2 := hS.below hb1
    clear hS hb1 hnew hc1
    go_wp2
    have hstart : Hid (Filled 1 intC (w1.alloc (.cells (madeCells #[Value.int IntKind.i64 0] n) 2)) w1.heap.size 2 n (mirL b ps) 0) := Lib.hid (.start _ (made_row _ _ _ _))
    have hbs := Lib.hid (below_a1 w1 (.cells (madeCells #[Value.int IntKind.i64 0] n) 2))
    generalize hws : w1.alloc (.cells (madeCells #[Value.int IntKind.i64 0] n) 2) = ws at *
    clear hws hmk
    generalize hN : w.heap.size = N at *
    replace hN := Lib.hid hN
    go_loopw [21] (fun i wr => ∃ k : Nat, k ≤ n ∧ i = .int .i64 k ∧ Below w1.heap.size w1 wr ∧ Filled 1 intC wr w1.heap.size 2 n (mirL b ps) k) (fun i _ => n - (intOf i).toNat)
    case atStart => exact ⟨0, by omega, rfl, hbs.out, hstart.out⟩
    case round =>
      obtain ⟨k, hk, rfl, hbo, hF⟩ := hrel
      by_cases hlt : k < n
      · obtain ⟨bb, off, x, rfl, hbb, hx, c0⟩ := int_at (hS2.below hbo) hlt
        obtain ⟨x0, x1⟩ := hasBar_iff.1 (hbars.out _ _ hx.out)
        have hk0 : (0 : Int) ≤ (k : Int) := Int.natCast_nonneg _
        have hk1 : (k : Int) < (n : Int) := by omega
        obtain ⟨d0, _⟩ := hbox.out.step hbo
        obtain ⟨f, hrow1⟩ := hF.row
        have d5 := hrow1.cell (i := k) (by omega)
        have e5 := hrow1.frozen k
        have hmx : (mirL b ps)[k]? = some (b.bars - 1 - x) := by rw [mirL, List.getElem?_map, hx.out]; rfl
        have hstep := Lib.hid (hF.step hmx (fun _ => rfl))
        simp only [intC, putRow, Nat.mul_one] at hstep
        have hbo1 := Lib.hid (hbo.setCell (p := ⟨w1.heap.size, k, none⟩) (Nat.le_refl _) (.int .i64 (b.bars - 1 - x)))
        replace hmx := Lib.hid hmx
        have s1 : IntKind.i64.wrap (b.bars - 1) = b.bars - 1 := IntWalk.i64_in _ (by omega)
        have s2 : IntKind.i64.wrap (b.bars - 1 - x) = b.bars - 1 - x := IntWalk.i64_in _ (by omega)
        go_wp2
        clear s1 s2
        go_roundw
        case rel => exact ⟨k + 1, by omega, by go_num, hbo1.out, hstep.out⟩
        case measure => simp [intOf]; omega
      · obtain rfl : k = n := by omega
        have hO' : OInts wr w1.heap.size (some ⟨w1.heap.size, 0, none⟩) k (mirL b ps) := ORow.of_filled (show Filled 1 intC wr w1.heap.size 2 (k * 1) (mirL b ps) k by simpa using hF) (by simp [mirL, hl.out]) (Nat.le_refl _) (fun _ => rfl)
        have hfin := Lib.hid (show OInts wr N (some ⟨w1.heap.size, 0, none⟩) k r.1 by rw [hres.out]; exact hO'.mono (by rw [← hN.out]; exact hbel.out.size))
        have hcode : Hid (r.2 = 0) := Lib.hid (by rw [hres.out])
        clear hF hO'
        go_wp2
        go_ret2
        obtain rfl := hN.out
        exact ⟨_, k, _, by rw [hcode.out]; rfl, by omega, Nat.le_refl _, hfin.out, hbel.out.step hbo⟩
  · have hres : Hid (r = ([], plCode b ps)) := Lib.hid (by rw [hr.out, mirrorArrange, if_neg h0])
    have hc1 := Lib.hid (fun W (hW : Ints W A n ps) => codeP_impl b A n c ps rfl W hW hn hcap)
    have hcs := plCode_cases b ps
    generalize plCode b ps = q at *
    have hq0 : (q == 0) = false := by simpa using h0
    clear h0 hr
    rcases hcs with rfl | rfl | rfl
    · simp at hq0
    · clear hq0
      go_enter Try.func11, Try.ntmps11
      go_wp2_with fail
      refine (hc1.out _ hS).mono ?_
      rintro e w1 ⟨rfl, hb1⟩
      go_wp2
      go_ret2
      exact SwOutC.bad hres.out (hb0.out.step hb1)
    · clear hq0
      go_enter Try.func11, Try.ntmps11
      go_wp2_with fail
      refine (hc1.out _ hS).mono ?_
      rintro e w1 ⟨rfl, hb1⟩
      go_wp2
      go_ret2
      exact SwOutC.bad hres.out (hb0.out.step hb1)
end Go.Proofs.Ytbhiimleagldgaa
