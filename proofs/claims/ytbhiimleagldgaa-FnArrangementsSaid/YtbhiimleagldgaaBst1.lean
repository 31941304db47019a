/- The best exchange: the model's function and the program's. -/
import Derived.Test.YtbhiimleagldgaaBst0
import Derived.Test.YtbhiimleagldgaaSwp1
import Derived.Test.YtbhiimleagldgaaArrE
namespace Go.Proofs.Ytbhiimleagldgaa
open Go.RowKit
set_option linter.unusedVariables false
set_option linter.unusedSimpArgs false

set_option maxRecDepth 100000 in
set_option maxHeartbeats 3200000 in
theorem best_impl (b : BasketD) (A : Option Addr) (n c : Nat) (xss : List (List Int)) (B : Option Addr) (d : Nat) (ps : List Int) {o : Option (Nat × Nat)} (ho : bestB b xss ps = o) (w : World) (hok : basketOk b = true) (hpk : pairsOk xss = true) (hbars : ∀ (i : Nat) (x : Int), ps[i]? = some x → hasBar b x = true) (h : IntSS w A n xss) (hp : Ints w B n ps) :
    Calls Try.prog 32 #[.agg #[.int .i64 b.bars, .int .i64 b.rise, .int .i64 b.fall, .int .i64 b.clear, .int .i64 b.near], .slice A n c, .slice B n d] w fun e w' => e = .returned (.tuple #[.int .i64 (gx o), .int .i64 (gy o), .bool o.isSome]) ∧ Below w.heap.size w w' := by
  have hnew := Lib.hid (box_new w b 25)
  have hb0 := Lib.hid (below_a1 w (.cells #[.int .i64 b.bars, .int .i64 b.rise, .int .i64 b.fall, .int .i64 b.clear, .int .i64 b.near] 25))
  have hlen := Lib.hid h.len
  have hpl := Lib.hid hp.1
  have hS := h.below hb0.out
  have hQ := hp.below hb0.out
  obtain ⟨⟨n2, n7⟩, _⟩ := pairsOk_iff.1 hpk
  rw [hlen.out] at n2 n7
  have hcost := Lib.hid (fun (C : Option Addr) (e : Nat) (qs : List Int) W (hq : ∀ (i : Nat) (x : Int), qs[i]? = some x → hasBar b x = true) (hW : IntSS W A n xss) (hC : Ints W C n qs) => cost_impl b A n c xss C e qs W hok hpk hq hW hC)
  have hsw := Lib.hid (fun (i k : Nat) (hi : i < n) (hk : k < n) W (hW : Ints W B n ps) => swap_impl B n d ps i k _ _ W hW (by omega) (List.getElem?_eq_getElem (by rw [hpl.out]; exact hi)) (List.getElem?_eq_getElem (by rw [hpl.out]; exact hk)))
  have hsb := Lib.hid (fun (i k : Nat) (hi : i < n) (hk : k < n) => swapL_bars (by rw [hpl.out]; exact hi) (by rw [hpl.out]; exact hk) hbars)
  have hend : Hid ((outerB b xss ps n).1 = o) := Lib.hid (by rw [← ho, bestB, hpl.out])
  have hnxt : Hid (∀ i, outerB b xss ps (i + 1) = innerB b xss ps i (outerB b xss ps i) (n - (i + 1))) := Lib.hid (fun i => by rw [← hpl.out]; rfl)
  replace hbars := Lib.hid hbars
  clear hok hpk h hp ho
  go_enter Try.func32, Try.ntmps32
  go_wp2_with fail
  refine (hcost.out B d ps _ hbars.out hS hQ).mono ?_
  rintro e w1 ⟨rfl, hb1⟩
  have hb2 := Lib.hid (hb0.out.step hb1)
  have hbx1 := Lib.hid (hnew.out.step hb1)
  have hS1 := hS.below hb1
  have hQ1 := hQ.below hb1
  clear hb1 hS hQ hnew
  generalize hN : w.heap.size = N at *
  replace hN := Lib.hid hN
  go_wp2
  go_loopw [9, 10, 11, 12, 22] (fun x y f l i wr => ∃ k : Nat, k ≤ n ∧ i = .int .i64 k ∧ x = .int .i64 (gx (outerB b xss ps k).1) ∧ y = .int .i64 (gy (outerB b xss ps k).1) ∧ f = .bool (outerB b xss ps k).1.isSome ∧ l = .int .i64 (outerB b xss ps k).2 ∧ Below w1.heap.size w1 wr) (fun _ _ _ _ i _ => n - (intOf i).toNat)
  case atStart => exact ⟨0, by omega, rfl, rfl, rfl, rfl, rfl, Below.refl _ _⟩
  case round =>
    obtain ⟨k, hk, rfl, rfl, rfl, rfl, rfl, hbo⟩ := hrel
    rename World => wo
    by_cases hlt : k < n
    · have hk0 : (0 : Int) ≤ (k : Int) := Int.natCast_nonneg _
      have hk1 : (k : Int) < (n : Int) := by omega
      have hnk := Lib.hid (hnxt.out k)
      generalize hst : outerB b xss ps k = st at *
      replace hst := Lib.hid hst
      go_wp2
      go_loopw [9, 10, 11, 12, 14] (fun x y f l m wq => ∃ j : Nat, k + 1 + j ≤ n ∧ m = .int .i64 (k + 1 + j : Nat) ∧ x = .int .i64 (gx (innerB b xss ps k st j).1) ∧ y = .int .i64 (gy (innerB b xss ps k st j).1) ∧ f = .bool (innerB b xss ps k st j).1.isSome ∧ l = .int .i64 (innerB b xss ps k st j).2 ∧ Below wo.heap.size wo wq) (fun _ _ _ _ m _ => n - (intOf m).toNat)
      case atStart => exact ⟨0, by omega, by simp, rfl, rfl, rfl, rfl, Below.refl _ _⟩
      case round =>
        obtain ⟨j, hj, rfl, rfl, rfl, rfl, rfl, hbq⟩ := hrel
        rename World => wq
        by_cases hltq : k + 1 + j < n
        · obtain ⟨m, hm⟩ : ∃ m, k + 1 + j = m := ⟨_, rfl⟩
          have hstep : Hid (innerB b xss ps k st (j + 1) = stepB b xss ps (innerB b xss ps k st j) k m) := Lib.hid (by rw [← hm]; rfl)
          have hm2 : Hid (k + 1 + (j + 1) = m + 1) := Lib.hid (by omega)
          rw [hm] at hltq
          simp only [hm]
          generalize hsj : innerB b xss ps k st j = sj at *
          replace hsj := Lib.hid hsj
          replace hm := Lib.hid hm
          have hm0 : (0 : Int) ≤ (m : Int) := Int.natCast_nonneg _
          have hm1 : (m : Int) < (n : Int) := by omega
          have hcs := Lib.hid (fun W (hW : Below wq.heap.size wq W) => hsw.out k m hlt hltq W (((hQ1.below hbo).below hbq).below hW))
          have hcc := Lib.hid (fun (g e : Nat) W (hW : Below wq.heap.size wq W) (hC : Ints W (some ⟨g, 0, none⟩) n (swapL ps k m)) => hcost.out (some ⟨g, 0, none⟩) e (swapL ps k m) W (hsb.out k m hlt hltq) (((hS1.below hbo).below hbq).below hW) hC)
          have hsd : Hid (stepB b xss ps sj k m = if costI b xss (swapL ps k m) < sj.2 then (some (k, m), costI b xss (swapL ps k m)) else sj) := Lib.hid rfl
          generalize hCC : costI b xss (swapL ps k m) = CC at *
          replace hCC := Lib.hid hCC
          obtain ⟨d0, d1, d2, d3, d4⟩ := (hbx1.out.step hbo).step hbq
          by_cases hgt : CC < sj.2
          · have hnew : Hid (innerB b xss ps k st (j + 1) = (some (k, m), CC)) := Lib.hid (by rw [hstep.out, hsd.out, if_pos hgt])
            have hgd : decide (CC < sj.2) = true := decide_eq_true hgt
            obtain ⟨ob, lb⟩ := sj
            simp only at hgt hgd
            go_wp2_with fail
            refine wp_region_held_drew (S := fun w' => Below wq.heap.size wq w' ∧ w'.cell? ⟨N, 0, none⟩ = some (.int .i64 b.bars) ∧ w'.cell? ⟨N, 1, none⟩ = some (.int .i64 b.rise) ∧ w'.cell? ⟨N, 2, none⟩ = some (.int .i64 b.fall) ∧ w'.cell? ⟨N, 3, none⟩ = some (.int .i64 b.clear) ∧ w'.cell? ⟨N, 4, none⟩ = some (.int .i64 b.near)) (by kernel_rfl) ?_ (fun hHeld => ?_)
            · exact ⟨(Below.refl _ _).drew, d0, d1, d2, d3, d4⟩
            refine wpAnyH_take (i := 0) (v := ?vp0) rfl (by kernel_rfl) (by kernel_rfl) (by kernel_rfl) (fun _ _ _ h => h) (Or.inl ⟨rfl, ?yp0⟩) (by assumption) ?_
            case yp0 => (intro w hSw; (try dsimp only at hSw); go_simp; first | done | with_reducible rfl)
            simp only [List.getElem_toArray, List.getElem_cons_succ, List.getElem_cons_zero, Act.put, List.setIfInBounds_toArray, List.set_cons_zero, List.set_cons_succ]
            refine wpAnyH_take (i := 1) (v := ?vp1) rfl (by kernel_rfl) (by kernel_rfl) (by kernel_rfl) (fun _ _ _ h => h) (Or.inl ⟨rfl, ?yp1⟩) (by assumption) ?_
            case yp1 => (intro w hSw; (try dsimp only at hSw); go_simp; first | done | with_reducible rfl)
            simp only [List.getElem_toArray, List.getElem_cons_succ, List.getElem_cons_zero, Act.put, List.setIfInBounds_toArray, List.set_cons_zero, List.set_cons_succ]
            refine wpAnyH_take (i := 2) (v := ?vp2) rfl (by kernel_rfl) (by kernel_rfl) (by kernel_rfl) (fun _ _ _ h => h) (Or.inl ⟨rfl, ?yp2⟩) (by assumption) ?_
            case yp2 => (intro w hSw; (try dsimp only at hSw); go_simp; first | done | with_reducible rfl)
            simp only [List.getElem_toArray, List.getElem_cons_succ, List.getElem_cons_zero, Act.put, List.setIfInBounds_toArray, List.set_cons_zero, List.set_cons_succ]
            refine wpAnyH_take (i := 3) (v := ?vp3) rfl (by kernel_rfl) (by kernel_rfl) (by kernel_rfl) (fun _ _ _ h => h) (Or.inl ⟨rfl, ?yp3⟩) (by assumption) ?_
            case yp3 => (intro w hSw; (try dsimp only at hSw); go_simp; first | done | with_reducible rfl)
            simp only [List.getElem_toArray, List.getElem_cons_succ, List.getElem_cons_zero, Act.put, List.setIfInBounds_toArray, List.set_cons_zero, List.set_cons_succ]
            refine wpAnyH_take (i := 4) (v := ?vp4) rfl (by kernel_rfl) (by kernel_rfl) (by kernel_rfl) (fun _ _ _ h => h) (Or.inl ⟨rfl, ?yp4⟩) (by assumption) ?_
            case yp4 => (intro w hSw; (try dsimp only at hSw); go_simp; first | done | with_reducible rfl)
            simp only [List.getElem_toArray, List.getElem_cons_succ, List.getElem_cons_zero, Act.put, List.setIfInBounds_toArray, List.set_cons_zero, List.set_cons_succ]
            refine wpAnyH_ready (rs := [5]) (by kernel_rfl) (by simp) ?_
            refine AllReadyH.cons rfl (fun K hK => ?_) AllReadyH.nil
            go_simp
            refine (hcs.out _ hHeld.1).mono ?_
            rintro e w5 ⟨g, dd, rfl, hdd, hO, hb5⟩
            go_wp2_with fail
            refine hK.out _ _ ?_ (fun hHeld => ?_)
            · exact kept5 hHeld hb5
            clear hK K
            try simp only [List.getElem_toArray, List.getElem_cons_succ, List.getElem_cons_zero, Act.put, List.setIfInBounds_toArray, List.set_cons_zero, List.set_cons_succ]
            refine wpAnyH_ready (rs := [6]) (by kernel_rfl) (by simp) ?_
            refine AllReadyH.cons rfl (fun K hK => ?_) AllReadyH.nil
            go_simp
            refine (hcc.out g dd _ hHeld.1 hO.srow).mono ?_
            rintro e w6 ⟨rfl, hb6⟩
            go_wp2_with fail
            refine hK.out _ _ ?_ (fun hHeld => ?_)
            · exact kept5 hHeld hb6
            clear hK K
            try simp only [List.getElem_toArray, List.getElem_cons_succ, List.getElem_cons_zero, Act.put, List.setIfInBounds_toArray, List.set_cons_zero, List.set_cons_succ]
            refine wpAnyH_take (i := 7) (v := ?vp7) rfl (by kernel_rfl) (by kernel_rfl) (by kernel_rfl) (fun _ _ _ h => h) (Or.inl ⟨rfl, ?yp7⟩) (by assumption) ?_
            case yp7 => (intro w hSw; (try dsimp only at hSw); go_simp; first | done | with_reducible rfl)
            simp only [List.getElem_toArray, List.getElem_cons_succ, List.getElem_cons_zero, Act.put, List.setIfInBounds_toArray, List.set_cons_zero, List.set_cons_succ]
            refine wpAnyH_done (by kernel_rfl) ?_ _
            go_wp2
            go_roundw
            case rel => exact ⟨j + 1, by rw [hm2.out]; omega, by rw [hm2.out]; go_num, by rw [hnew.out] <;> rfl, by rw [hnew.out] <;> rfl, by rw [hnew.out] <;> rfl, by rw [hnew.out] <;> rfl, hbq.step hHeld.1⟩
            case measure => simp [intOf]; omega
          · have hnew : Hid (innerB b xss ps k st (j + 1) = sj) := Lib.hid (by rw [hstep.out, hsd.out, if_neg hgt])
            have hgd : decide (CC < sj.2) = false := decide_eq_false hgt
            obtain ⟨ob, lb⟩ := sj
            simp only at hgt hgd
            go_wp2_with fail
            refine wp_region_held_drew (S := fun w' => Below wq.heap.size wq w' ∧ w'.cell? ⟨N, 0, none⟩ = some (.int .i64 b.bars) ∧ w'.cell? ⟨N, 1, none⟩ = some (.int .i64 b.rise) ∧ w'.cell? ⟨N, 2, none⟩ = some (.int .i64 b.fall) ∧ w'.cell? ⟨N, 3, none⟩ = some (.int .i64 b.clear) ∧ w'.cell? ⟨N, 4, none⟩ = some (.int .i64 b.near)) (by kernel_rfl) ?_ (fun hHeld => ?_)
            · exact ⟨(Below.refl _ _).drew, d0, d1, d2, d3, d4⟩
            refine wpAnyH_take (i := 0) (v := ?vq0) rfl (by kernel_rfl) (by kernel_rfl) (by kernel_rfl) (fun _ _ _ h => h) (Or.inl ⟨rfl, ?yq0⟩) (by assumption) ?_
            case yq0 => (intro w hSw; (try dsimp only at hSw); go_simp; first | done | with_reducible rfl)
            simp only [List.getElem_toArray, List.getElem_cons_succ, List.getElem_cons_zero, Act.put, List.setIfInBounds_toArray, List.set_cons_zero, List.set_cons_succ]
            refine wpAnyH_take (i := 1) (v := ?vq1) rfl (by kernel_rfl) (by kernel_rfl) (by kernel_rfl) (fun _ _ _ h => h) (Or.inl ⟨rfl, ?yq1⟩) (by assumption) ?_
            case yq1 => (intro w hSw; (try dsimp only at hSw); go_simp; first | done | with_reducible rfl)
            simp only [List.getElem_toArray, List.getElem_cons_succ, List.getElem_cons_zero, Act.put, List.setIfInBounds_toArray, List.set_cons_zero, List.set_cons_succ]
            refine wpAnyH_take (i := 2) (v := ?vq2) rfl (by kernel_rfl) (by kernel_rfl) (by kernel_rfl) (fun _ _ _ h => h) (Or.inl ⟨rfl, ?yq2⟩) (by assumption) ?_
            case yq2 => (intro w hSw; (try dsimp only at hSw); go_simp; first | done | with_reducible rfl)
            simp only [List.getElem_toArray, List.getElem_cons_succ, List.getElem_cons_zero, Act.put, List.setIfInBounds_toArray, List.set_cons_zero, List.set_cons_succ]
            refine wpAnyH_take (i := 3) (v := ?vq3) rfl (by kernel_rfl) (by kernel_rfl) (by kernel_rfl) (fun _ _ _ h => h) (Or.inl ⟨rfl, ?yq3⟩) (by assumption) ?_
            case yq3 => (intro w hSw; (try dsimp only at hSw); go_simp; first | done | with_reducible rfl)
            simp only [List.getElem_toArray, List.getElem_cons_succ, List.getElem_cons_zero, Act.put, List.setIfInBounds_toArray, List.set_cons_zero, List.set_cons_succ]
            refine wpAnyH_take (i := 4) (v := ?vq4) rfl (by kernel_rfl) (by kernel_rfl) (by kernel_rfl) (fun _ _ _ h => h) (Or.inl ⟨rfl, ?yq4⟩) (by assumption) ?_
            case yq4 => (intro w hSw; (try dsimp only at hSw); go_simp; first | done | with_reducible rfl)
            simp only [List.getElem_toArray, List.getElem_cons_succ, List.getElem_cons_zero, Act.put, List.setIfInBounds_toArray, List.set_cons_zero, List.set_cons_succ]
            refine wpAnyH_ready (rs := [5]) (by kernel_rfl) (by simp) ?_
            refine AllReadyH.cons rfl (fun K hK => ?_) AllReadyH.nil
            go_simp
            refine (hcs.out _ hHeld.1).mono ?_
            rintro e w5 ⟨g, dd, rfl, hdd, hO, hb5⟩
            go_wp2_with fail
            refine hK.out _ _ ?_ (fun hHeld => ?_)
            · exact kept5 hHeld hb5
            clear hK K
            try simp only [List.getElem_toArray, List.getElem_cons_succ, List.getElem_cons_zero, Act.put, List.setIfInBounds_toArray, List.set_cons_zero, List.set_cons_succ]
            refine wpAnyH_ready (rs := [6]) (by kernel_rfl) (by simp) ?_
            refine AllReadyH.cons rfl (fun K hK => ?_) AllReadyH.nil
            go_simp
            refine (hcc.out g dd _ hHeld.1 hO.srow).mono ?_
            rintro e w6 ⟨rfl, hb6⟩
            go_wp2_with fail
            refine hK.out _ _ ?_ (fun hHeld => ?_)
            · exact kept5 hHeld hb6
            clear hK K
            try simp only [List.getElem_toArray, List.getElem_cons_succ, List.getElem_cons_zero, Act.put, List.setIfInBounds_toArray, List.set_cons_zero, List.set_cons_succ]
            refine wpAnyH_take (i := 7) (v := ?vq7) rfl (by kernel_rfl) (by kernel_rfl) (by kernel_rfl) (fun _ _ _ h => h) (Or.inl ⟨rfl, ?yq7⟩) (by assumption) ?_
            case yq7 => (intro w hSw; (try dsimp only at hSw); go_simp; first | done | with_reducible rfl)
            simp only [List.getElem_toArray, List.getElem_cons_succ, List.getElem_cons_zero, Act.put, List.setIfInBounds_toArray, List.set_cons_zero, List.set_cons_succ]
            refine wpAnyH_done (by kernel_rfl) ?_ _
            go_wp2
            go_roundw
            case rel => exact ⟨j + 1, by rw [hm2.out]; omega, by rw [hm2.out]; go_num, by rw [hnew.out] <;> rfl, by rw [hnew.out] <;> rfl, by rw [hnew.out] <;> rfl, by rw [hnew.out] <;> rfl, hbq.step hHeld.1⟩
            case measure => simp [intOf]; omega
        · have hnn : k + 1 + j = n := by omega
          have hfin : Hid (outerB b xss ps (k + 1) = innerB b xss ps k st j) := Lib.hid (by rw [hnk.out]; congr 1; omega)
          replace hnn := Lib.hid hnn
          generalize hsj : innerB b xss ps k st j = sj at *
          replace hsj := Lib.hid hsj
          have hge : decide (((k + 1 + j : Nat) : Int) < (n : Int)) = false := decide_eq_false (by rw [hnn.out]; omega)
          go_wp2
          go_roundw
          case rel => exact ⟨k + 1, by omega, by go_num, by rw [hfin.out], by rw [hfin.out], by rw [hfin.out], by rw [hfin.out], hbo.step hbq⟩
          case measure => simp [intOf]; omega
    · obtain rfl : k = n := by omega
      rw [hend.out]
      go_wp2
      go_ret3
      obtain rfl := hN.out
      exact ⟨rfl, hb2.out.step hbo⟩
end Go.Proofs.Ytbhiimleagldgaa
