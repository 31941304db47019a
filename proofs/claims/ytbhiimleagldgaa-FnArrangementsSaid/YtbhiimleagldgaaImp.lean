/- ImproveArrange: the model's function and the program's. -/
import Derived.Test.YtbhiimleagldgaaBst2
namespace Go.Proofs.Ytbhiimleagldgaa
open Go.RowKit
set_option linter.unusedVariables false
set_option linter.unusedSimpArgs false

/-- What a slice of int64 holds in a world. -/
def readI (w : World) : Value → List Int
  | .slice (some a) n _ => (List.range n).map fun i => match w.cell? ⟨a.block, a.off + i, none⟩ with | some (.int _ x) => x | _ => 0
  | _ => []
theorem readI_of {w : World} {g n c : Nat} {xs : List Int} (h : Ints w (some ⟨g, 0, none⟩) n xs) : readI w (.slice (some ⟨g, 0, none⟩) n c) = xs := by
  refine List.ext_getElem? fun i => ?_
  by_cases hi : i < n
  · obtain ⟨_, _, x, hA, _, hx, hc⟩ := int_at h hi
    cases hA
    rw [hx.out]
    rw [Nat.zero_add] at hc
    simp [readI, hi, hc]
  · rw [List.getElem?_eq_none (by simp [readI]; omega), List.getElem?_eq_none (by rw [h.1]; omega)]

set_option maxRecDepth 100000 in
set_option maxHeartbeats 1600000 in
theorem im_impl (b : BasketD) (A : Option Addr) (n c : Nat) (xss : List (List Int)) (B : Option Addr) (m d : Nat) (ps : List Int) (w : World) (hb : b.good) (h : IntSS w A n xss) (hn : n ≤ 1048576) (hx : ∀ xs ∈ xss, issGood xs) (hp : Ints w B m ps) (hm : m ≤ 1048576) (hy : ∀ x ∈ ps, intGood x) :
    Calls Try.prog 12 #[.agg #[.int .i64 b.bars, .int .i64 b.rise, .int .i64 b.fall, .int .i64 b.clear, .int .i64 b.near], .slice A n c, .slice B m m] w (SwOut (improveOf b xss ps) w) := by
  generalize hr : improveOf b xss ps = r
  replace hr := Lib.hid hr.symm
  have hnew := Lib.hid (box_new w b 25)
  have hb0 := Lib.hid (below_a1 w (.cells #[.int .i64 b.bars, .int .i64 b.rise, .int .i64 b.fall, .int .i64 b.clear, .int .i64 b.near] 25))
  have hl := Lib.hid h.len
  have hpl := Lib.hid hp.1
  clear hb hx hy
  by_cases h0 : arrCode b xss ps = 0
  · obtain ⟨h1, h2, h3, h4⟩ := arrCode_ok h0
    have hmn : m = n := by rw [← hpl.out, ← hl.out, h4]
    subst hmn
    have hc1 := Lib.hid (fun W (hW : IntSS W A m xss) (hP : Ints W B m ps) => code5_impl b A m c xss B m m ps h0 W hW hn hP hm (Nat.le_refl _))
    have hres : Hid (r = (improveL b xss ps, 0)) := Lib.hid (by rw [hr.out, improveOf, if_pos h0])
    have hbest := Lib.hid (fun (C : Option Addr) (e : Nat) (qs : List Int) (o : Option (Nat × Nat)) (ho : bestB b xss qs = o) W (hq : ∀ (i : Nat) (x : Int), qs[i]? = some x → hasBar b x = true) (hW : IntSS W A m xss) (hC : Ints W C m qs) => best_impl b A m c xss C e qs ho W h1 h2 hq hW hC)
    have hpos := Lib.hid (fun (qs : List Int) => (costTo_range h1 h2 qs xss.length (pairsOk_iff.1 h2).1.2).1)
    have hbars := Lib.hid (placesOk_bars h3)
    have hm0 := (placesOk_len h3).1
    rw [hpl.out] at hm0
    clear h0 h1 h2 h3 h4 hr
    go_enter Try.func12, Try.ntmps12
    go_wp2_with fail
    refine (hc1.out _ (h.below hb0.out) (hp.below hb0.out)).mono ?_
    rintro e w1 ⟨rfl, hb1⟩
    go_wp2_with fail
    refine (clone_impl B m m ps _ ((hp.below hb0.out).below hb1) hm0 hm).mono ?_
    rintro e w2 ⟨g0, d0, rfl, hd0, hO0, hb2⟩
    have hbel := Lib.hid ((hb0.out.step hb1).step hb2)
    have hbox := Lib.hid ((hnew.out.step hb1).step hb2)
    have hS2 := ((h.below hb0.out).below hb1).below hb2
    have hO2 := Lib.hid (hO0.mono (Nat.le_trans hb0.out.size hb1.size) : OInts w2 w.heap.size (some ⟨g0, 0, none⟩) m ps)
    clear hb1 hb2 hO0 hc1 h hp hnew
    go_wp2
    go_loopw [9] (fun v wr => ∃ (g e : Nat) (qs : List Int) (f : Nat), v = .slice (some ⟨g, 0, none⟩) m e ∧ m ≤ e ∧ OInts wr w.heap.size (some ⟨g, 0, none⟩) m qs ∧ (∀ (i : Nat) (x : Int), qs[i]? = some x → hasBar b x = true) ∧ improveL b xss ps = improveF b xss f qs ∧ (costI b xss qs).toNat < f ∧ Below w2.heap.size w2 wr) (fun v wr => (costI b xss (readI wr v)).toNat)
    case atStart => exact ⟨g0, d0, ps, (costI b xss ps).toNat + 1, rfl, hd0, hO2.out, hbars.out, rfl, by omega, Below.refl _ _⟩
    case round =>
      obtain ⟨g, e, qs, f, rfl, he, hO, hqb, hF, hlt, hbo⟩ := hrel
      replace hF := Lib.hid hF
      have hrd := Lib.hid (readI_of (c := e) hO.srow)
      have hql := Lib.hid hO.1
      have hqb' := Lib.hid hqb
      obtain ⟨x0, x1, x2, x3, x4⟩ := hbox.out.step hbo
      cases ho : bestB b xss qs with
      | none =>
        have hfin : Hid (r.1 = qs) := Lib.hid (by rw [hres.out]; show improveL b xss ps = qs; rw [hF.out, improveF_none (by omega) ho])
        have hc2 := Lib.hid (hbest.out (some ⟨g, 0, none⟩) e qs none ho wr hqb (hS2.below hbo) hO.srow)
        clear ho hqb
        go_wp2_with fail
        refine (hc2.out).mono ?_
        rintro e w3 ⟨rfl, hb3⟩
        have hO3 := Lib.hid (hO.below hb3)
        simp only [fx, fy, gx, gy, Option.isSome]
        clear hO
        have hcode : Hid (r.2 = 0) := Lib.hid (by rw [hres.out])
        go_wp2
        go_ret2
        exact ⟨_, m, _, by rw [hcode.out]; rfl, hm, by rw [hfin.out]; exact hO3.out, (hbel.out.step hbo).step hb3⟩
      | some p =>
        obtain ⟨i, k⟩ := p
        obtain ⟨i1, i2, i3⟩ := bestB_some ho
        rw [hql.out] at i2
        have hi' : i < qs.length := by rw [hql.out]; omega
        have hk' : k < qs.length := by rw [hql.out]; omega
        obtain ⟨f', rfl⟩ : ∃ f', f = f' + 1 := ⟨f - 1, by omega⟩
        have hF2 : Hid (improveL b xss ps = improveF b xss f' (swapL qs i k)) := Lib.hid (by rw [hF.out, improveF_some ho])
        have hpc := hpos.out (swapL qs i k)
        have hpc : 0 ≤ costI b xss (swapL qs i k) := hpc
        have hlt2 : (costI b xss (swapL qs i k)).toNat < f' := by omega
        have hdec : Hid ((costI b xss (swapL qs i k)).toNat < (costI b xss qs).toNat) := Lib.hid (by omega)
        have hsb := Lib.hid (swapL_bars hi' hk' hqb)
        have hc2 := Lib.hid (hbest.out (some ⟨g, 0, none⟩) e qs (some (i, k)) ho wr hqb (hS2.below hbo) hO.srow)
        have hc3 := Lib.hid (fun W (hW : Ints W (some ⟨g, 0, none⟩) m qs) => swap_impl (some ⟨g, 0, none⟩) m e qs i k _ _ W hW hm (List.getElem?_eq_getElem hi') (List.getElem?_eq_getElem hk'))
        have hneg : decide ((i : Int) < 0) = false := decide_eq_false (by omega)
        clear ho hqb i1 i2 i3 hi' hk' hpc
        go_wp2_with fail
        refine (hc2.out).mono ?_
        rintro e w3 ⟨rfl, hb3⟩
        simp only [fx, fy, gx, gy, Option.isSome]
        go_wp2_with fail
        refine (hc3.out _ (hO.srow.below hb3)).mono ?_
        rintro e w4 ⟨g4, d4, rfl, hd4, hO4, hb4⟩
        have hO5 := Lib.hid (hO4.mono (Nat.le_trans (hbel.out.step hbo).size hb3.size) : OInts w4 w.heap.size (some ⟨g4, 0, none⟩) m (swapL qs i k))
        have hbo4 := Lib.hid ((hbo.step hb3).step hb4)
        have hrd4 := Lib.hid (readI_of (c := d4) hO4.srow)
        clear hO hO4 hb3 hb4
        go_wp2
        go_roundw
        case rel => exact ⟨g4, d4, swapL qs i k, f', rfl, hd4, hO5.out, hsb.out, hF2.out, hlt2, hbo4.out⟩
        case measure =>
          show (costI b xss (readI w4 (.slice (some ⟨g4, 0, none⟩) m d4))).toNat < (costI b xss (readI wr (.slice (some ⟨g, 0, none⟩) m e))).toNat
          rw [hrd.out, hrd4.out]
          exact hdec.out
  · have hres : Hid (r = ([], arrCode b xss ps)) := Lib.hid (by rw [hr.out, improveOf, if_neg h0])
    have hc1 := Lib.hid (fun W (hW : IntSS W A n xss) (hP : Ints W B m ps) => code5_impl b A n c xss B m m ps rfl W hW hn hP hm (Nat.le_refl _))
    have hcs := arrCode_cases b xss ps
    generalize arrCode b xss ps = q at *
    have hq0 : (q == 0) = false := by simpa using h0
    clear h0 hr
    rcases hcs with rfl | rfl | rfl
    · simp at hq0
    · clear hq0
      go_enter Try.func12, Try.ntmps12
      go_wp2_with fail
      refine (hc1.out _ (h.below hb0.out) (hp.below hb0.out)).mono ?_
      rintro e w1 ⟨rfl, hb1⟩
      go_wp2
      go_ret2
      exact SwOut.bad hres.out (hb0.out.step hb1)
    · clear hq0
      go_enter Try.func12, Try.ntmps12
      go_wp2_with fail
      refine (hc1.out _ (h.below hb0.out) (hp.below hb0.out)).mono ?_
      rintro e w1 ⟨rfl, hb1⟩
      go_wp2
      go_ret2
      exact SwOut.bad hres.out (hb0.out.step hb1)
end Go.Proofs.Ytbhiimleagldgaa
