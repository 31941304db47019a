/- The cost of an arrangement: the model's function and the program's. -/
import Derived.Test.YtbhiimleagldgaaArrD
namespace Go.Proofs.Ytbhiimleagldgaa
open Go.RowKit
set_option linter.unusedVariables false
set_option linter.unusedSimpArgs false

set_option maxRecDepth 100000 in
set_option maxHeartbeats 3200000 in
theorem rowc_impl (b : BasketD) (R : Option Addr) (n c : Nat) (xs : List Int) (i : Nat) (B : Option Addr) (d : Nat) (ps : List Int) (w : World) (hok : basketOk b = true) (hn7 : n ≤ 7) (hi : i < n) (hxb : ∀ (k : Nat) (x : Int), xs[k]? = some x → 0 ≤ x ∧ x ≤ 1000) (hbars : ∀ (i : Nat) (x : Int), ps[i]? = some x → hasBar b x = true) (h : Ints w R n xs) (hp : Ints w B n ps) :
    Calls Try.prog 42 #[.agg #[.int .i64 b.bars, .int .i64 b.rise, .int .i64 b.fall, .int .i64 b.clear, .int .i64 b.near], .slice R n c, .int .i64 (i : Int), .slice B n d] w fun e w' => e = .returned (.int .i64 (costRow b ps xs i n)) ∧ Below w.heap.size w w' := by
  have hnew := Lib.hid (box_new w b 25)
  have hb0 := Lib.hid (below_a1 w (.cells #[.int .i64 b.bars, .int .i64 b.rise, .int .i64 b.fall, .int .i64 b.clear, .int .i64 b.near] 25))
  have hS := h.below hb0.out
  have hQ := hp.below hb0.out
  have hcr := Lib.hid (fun (m : Nat) => costRow_range hok hxb ps i m)
  have htr := Lib.hid (fun (x : Int) (h0 : 0 ≤ x) (h1 : x ≤ 1000) (p q : Int) => term_range hok h0 h1 p q)
  have hwt := Lib.hid (fun (p q : Int) (h1 : hasBar b p = true) (h2 : hasBar b q = true) W => wait_impl b p q hok h1 h2 W)
  replace hbars := Lib.hid hbars
  replace hxb := Lib.hid hxb
  clear hok h hp
  have hk0 : (0 : Int) ≤ (i : Int) := Int.natCast_nonneg _
  have hk1 : (i : Int) < (n : Int) := by omega
  go_enter Try.func42, Try.ntmps42
  go_wp2
  generalize hw1 : w.alloc (.cells #[.int .i64 b.bars, .int .i64 b.rise, .int .i64 b.fall, .int .i64 b.clear, .int .i64 b.near] 25) = w1 at *
  clear hw1
  generalize hN : w.heap.size = N at *
  replace hN := Lib.hid hN
  go_loopw [9, 14] (fun t j wr => ∃ q : Nat, q ≤ n ∧ j = .int .i64 q ∧ t = .int .i64 (costRow b ps xs i q) ∧ Below w1.heap.size w1 wr) (fun _ j _ => n - (intOf j).toNat)
  case atStart => exact ⟨0, by omega, rfl, rfl, Below.refl _ _⟩
  case round =>
    obtain ⟨q, hq, rfl, rfl, hbq⟩ := hrel
    have hcR := hcr.out q
    by_cases hltq : q < n
    · obtain ⟨bx, ox, x, rfl, hbx1, hxx, f1⟩ := int_at (hS.below hbq) hltq
      obtain ⟨bp, op, y, rfl, _, hyx, f3⟩ := int_at (hQ.below hbq) hltq
      obtain ⟨_, _, p, hA2, _, hpx, f2⟩ := int_at (hQ.below hbq) hi
      cases hA2
      obtain ⟨x0, x1⟩ := hxb.out q x hxx.out
      have hq0 : (0 : Int) ≤ (q : Int) := Int.natCast_nonneg _
      have hq1 : (q : Int) < (n : Int) := by omega
      have hnx2 : Hid (costRow b ps xs i (q + 1) = costRow b ps xs i q + x * waitI b p y) := Lib.hid (by rw [costRow_succ hxx.out hpx.out hyx.out])
      have hj := hwt.out p y (hbars.out _ _ hpx.out) (hbars.out _ _ hyx.out)
      obtain ⟨t0, t1⟩ := htr.out x x0 x1 p y
      generalize waitI b p y = Wt at *
      replace hj := Lib.hid hj
      generalize hRR : costRow b ps xs i q = RR at *
      replace hRR := Lib.hid hRR
      obtain ⟨X, hX⟩ : ∃ X, x * Wt = X := ⟨_, rfl⟩
      rw [hX] at t0 t1 hnx2
      have s1 : IntKind.i64.wrap (x * Wt) = X := by rw [← hX]; exact IntWalk.i64_in _ (by omega)
      have s2 : IntKind.i64.wrap (RR + X) = RR + X := IntWalk.i64_in _ (by omega)
      replace hX := Lib.hid hX
      obtain ⟨d0, d1, d2, d3, d4⟩ := hnew.out.step hbq
      go_wp2_with fail
      refine wp_region_held_drew (S := fun w' => Below wr.heap.size wr w' ∧ w'.cell? ⟨N, 0, none⟩ = some (.int .i64 b.bars) ∧ w'.cell? ⟨N, 1, none⟩ = some (.int .i64 b.rise) ∧ w'.cell? ⟨N, 2, none⟩ = some (.int .i64 b.fall) ∧ w'.cell? ⟨N, 3, none⟩ = some (.int .i64 b.clear) ∧ w'.cell? ⟨N, 4, none⟩ = some (.int .i64 b.near) ∧ w'.cell? ⟨bp, op + i, none⟩ = some (.int .i64 p) ∧ w'.cell? ⟨bp, op + q, none⟩ = some (.int .i64 y)) (by kernel_rfl) ?_ (fun hHeld => ?_)
      · exact ⟨(Below.refl _ _).drew, d0, d1, d2, d3, d4, f2, f3⟩
      refine wpAnyH_take (i := 0) (v := ?vb0) rfl (by kernel_rfl) (by kernel_rfl) (by kernel_rfl) (fun _ _ _ h => h) (Or.inl ⟨rfl, ?yb0⟩) (by assumption) ?_
      case yb0 => (intro w hSw; (try dsimp only at hSw); go_simp; first | done | with_reducible rfl)
      simp only [List.getElem_toArray, List.getElem_cons_succ, List.getElem_cons_zero, Act.put, List.setIfInBounds_toArray, List.set_cons_zero, List.set_cons_succ]
      refine wpAnyH_take (i := 1) (v := ?vb1) rfl (by kernel_rfl) (by kernel_rfl) (by kernel_rfl) (fun _ _ _ h => h) (Or.inl ⟨rfl, ?yb1⟩) (by assumption) ?_
      case yb1 => (intro w hSw; (try dsimp only at hSw); go_simp; first | done | with_reducible rfl)
      simp only [List.getElem_toArray, List.getElem_cons_succ, List.getElem_cons_zero, Act.put, List.setIfInBounds_toArray, List.set_cons_zero, List.set_cons_succ]
      refine wpAnyH_take (i := 2) (v := ?vb2) rfl (by kernel_rfl) (by kernel_rfl) (by kernel_rfl) (fun _ _ _ h => h) (Or.inl ⟨rfl, ?yb2⟩) (by assumption) ?_
      case yb2 => (intro w hSw; (try dsimp only at hSw); go_simp; first | done | with_reducible rfl)
      simp only [List.getElem_toArray, List.getElem_cons_succ, List.getElem_cons_zero, Act.put, List.setIfInBounds_toArray, List.set_cons_zero, List.set_cons_succ]
      refine wpAnyH_take (i := 3) (v := ?vb3) rfl (by kernel_rfl) (by kernel_rfl) (by kernel_rfl) (fun _ _ _ h => h) (Or.inl ⟨rfl, ?yb3⟩) (by assumption) ?_
      case yb3 => (intro w hSw; (try dsimp only at hSw); go_simp; first | done | with_reducible rfl)
      simp only [List.getElem_toArray, List.getElem_cons_succ, List.getElem_cons_zero, Act.put, List.setIfInBounds_toArray, List.set_cons_zero, List.set_cons_succ]
      refine wpAnyH_take (i := 4) (v := ?vb4) rfl (by kernel_rfl) (by kernel_rfl) (by kernel_rfl) (fun _ _ _ h => h) (Or.inl ⟨rfl, ?yb4⟩) (by assumption) ?_
      case yb4 => (intro w hSw; (try dsimp only at hSw); go_simp; first | done | with_reducible rfl)
      simp only [List.getElem_toArray, List.getElem_cons_succ, List.getElem_cons_zero, Act.put, List.setIfInBounds_toArray, List.set_cons_zero, List.set_cons_succ]
      refine wpAnyH_take (i := 5) (v := ?vb5) rfl (by kernel_rfl) (by kernel_rfl) (by kernel_rfl) (fun _ _ _ h => h) (Or.inl ⟨rfl, ?yb5⟩) (by assumption) ?_
      case yb5 => (intro w hSw; (try dsimp only at hSw); go_simp; first | done | with_reducible rfl)
      simp only [List.getElem_toArray, List.getElem_cons_succ, List.getElem_cons_zero, Act.put, List.setIfInBounds_toArray, List.set_cons_zero, List.set_cons_succ]
      refine wpAnyH_take (i := 6) (v := ?vb6) rfl (by kernel_rfl) (by kernel_rfl) (by kernel_rfl) (fun _ _ _ h => h) (Or.inl ⟨rfl, ?yb6⟩) (by assumption) ?_
      case yb6 => (intro w hSw; (try dsimp only at hSw); go_simp; first | done | with_reducible rfl)
      simp only [List.getElem_toArray, List.getElem_cons_succ, List.getElem_cons_zero, Act.put, List.setIfInBounds_toArray, List.set_cons_zero, List.set_cons_succ]
      refine wpAnyH_take (i := 7) (v := ?vb7) rfl (by kernel_rfl) (by kernel_rfl) (by kernel_rfl) (fun _ _ _ h => h) (Or.inl ⟨rfl, ?yb7⟩) (by assumption) ?_
      case yb7 => (intro w hSw; (try dsimp only at hSw); go_simp; first | done | with_reducible rfl)
      simp only [List.getElem_toArray, List.getElem_cons_succ, List.getElem_cons_zero, Act.put, List.setIfInBounds_toArray, List.set_cons_zero, List.set_cons_succ]
      refine wpAnyH_take (i := 8) (v := ?vb8) rfl (by kernel_rfl) (by kernel_rfl) (by kernel_rfl) (fun _ _ _ h => h) (Or.inl ⟨rfl, ?yb8⟩) (by assumption) ?_
      case yb8 => (intro w hSw; (try dsimp only at hSw); go_simp; first | done | with_reducible rfl)
      simp only [List.getElem_toArray, List.getElem_cons_succ, List.getElem_cons_zero, Act.put, List.setIfInBounds_toArray, List.set_cons_zero, List.set_cons_succ]
      refine wpAnyH_take (i := 9) (v := ?vb9) rfl (by kernel_rfl) (by kernel_rfl) (by kernel_rfl) (fun _ _ _ h => h) (Or.inl ⟨rfl, ?yb9⟩) (by assumption) ?_
      case yb9 => (intro w hSw; (try dsimp only at hSw); go_simp; first | done | with_reducible rfl)
      simp only [List.getElem_toArray, List.getElem_cons_succ, List.getElem_cons_zero, Act.put, List.setIfInBounds_toArray, List.set_cons_zero, List.set_cons_succ]
      refine wpAnyH_take (i := 10) (v := ?vb10) rfl (by kernel_rfl) (by kernel_rfl) (by kernel_rfl) (fun _ _ _ h => h) (Or.inl ⟨rfl, ?yb10⟩) (by assumption) ?_
      case yb10 => (intro w hSw; (try dsimp only at hSw); go_simp; first | done | with_reducible rfl)
      simp only [List.getElem_toArray, List.getElem_cons_succ, List.getElem_cons_zero, Act.put, List.setIfInBounds_toArray, List.set_cons_zero, List.set_cons_succ]
      refine wpAnyH_ready (rs := [11]) (by kernel_rfl) (by simp) ?_
      refine AllReadyH.cons rfl (fun K hK => ?_) AllReadyH.nil
      go_simp
      refine (hj.out _).mono ?_
      rintro e w1 ⟨rfl, hb1⟩
      go_wp2_with fail
      refine hK.out _ _ ?_ (fun hHeld => ?_)
      · exact kept7 hHeld hb1
      clear hK K hb1
      try simp only [List.getElem_toArray, List.getElem_cons_succ, List.getElem_cons_zero, Act.put, List.setIfInBounds_toArray, List.set_cons_zero, List.set_cons_succ]
      refine wpAnyH_take (i := 12) (v := ?vb12) rfl (by kernel_rfl) (by kernel_rfl) (by kernel_rfl) (fun _ _ _ h => h) (Or.inl ⟨rfl, ?yb12⟩) (by assumption) ?_
      case yb12 => (intro w hSw; (try dsimp only at hSw); go_simp; first | done | with_reducible rfl)
      simp only [List.getElem_toArray, List.getElem_cons_succ, List.getElem_cons_zero, Act.put, List.setIfInBounds_toArray, List.set_cons_zero, List.set_cons_succ]
      refine wpAnyH_take (i := 13) (v := ?vb13) rfl (by kernel_rfl) (by kernel_rfl) (by kernel_rfl) (fun _ _ _ h => h) (Or.inl ⟨rfl, ?yb13⟩) (by assumption) ?_
      case yb13 => (intro w hSw; (try dsimp only at hSw); go_simp; first | done | with_reducible rfl)
      simp only [List.getElem_toArray, List.getElem_cons_succ, List.getElem_cons_zero, Act.put, List.setIfInBounds_toArray, List.set_cons_zero, List.set_cons_succ]
      refine wpAnyH_take (i := 14) (v := ?vb14) rfl (by kernel_rfl) (by kernel_rfl) (by kernel_rfl) (fun _ _ _ h => h) (Or.inl ⟨rfl, ?yb14⟩) (by assumption) ?_
      case yb14 => (intro w hSw; (try dsimp only at hSw); go_simp; first | done | with_reducible rfl)
      simp only [List.getElem_toArray, List.getElem_cons_succ, List.getElem_cons_zero, Act.put, List.setIfInBounds_toArray, List.set_cons_zero, List.set_cons_succ]
      refine wpAnyH_done (by kernel_rfl) ?_ _
      clear s1 s2
      go_wp2
      go_roundw
      case rel => exact ⟨q + 1, by omega, by go_num, by rw [hnx2.out], hbq.step hHeld.1⟩
      case measure => simp [intOf]; omega
    · obtain rfl : q = n := by omega
      go_wp2
      go_ret
      obtain rfl := hN.out
      exact ⟨rfl, hb0.out.step hbq⟩

set_option maxRecDepth 100000 in
set_option maxHeartbeats 1600000 in
theorem cost_impl (b : BasketD) (A : Option Addr) (n c : Nat) (xss : List (List Int)) (B : Option Addr) (d : Nat) (ps : List Int) (w : World) (hok : basketOk b = true) (hpk : pairsOk xss = true) (hbars : ∀ (i : Nat) (x : Int), ps[i]? = some x → hasBar b x = true) (h : IntSS w A n xss) (hp : Ints w B n ps) :
    Calls Try.prog 26 #[.agg #[.int .i64 b.bars, .int .i64 b.rise, .int .i64 b.fall, .int .i64 b.clear, .int .i64 b.near], .slice A n c, .slice B n d] w fun e w' => e = .returned (.int .i64 (costI b xss ps)) ∧ Below w.heap.size w w' := by
  have hnew := Lib.hid (box_new w b 25)
  have hb0 := Lib.hid (below_a1 w (.cells #[.int .i64 b.bars, .int .i64 b.rise, .int .i64 b.fall, .int .i64 b.clear, .int .i64 b.near] 25))
  have hlen := Lib.hid h.len
  have hS := h.below hb0.out
  have hQ := hp.below hb0.out
  obtain ⟨⟨n2, n7⟩, hrows0⟩ := pairsOk_iff.1 hpk
  rw [hlen.out] at n2 n7 hrows0
  have hrows := Lib.hid hrows0
  clear hrows0
  have hct := Lib.hid (costTo_range hok hpk ps)
  have hcr := Lib.hid (fun (xs : List Int) (hx : ∀ (k : Nat) (x : Int), xs[k]? = some x → 0 ≤ x ∧ x ≤ 1000) (i m : Nat) => costRow_range hok hx ps i m)
  have hrc := Lib.hid (fun (R : Option Addr) (c : Nat) (xs : List Int) (i : Nat) W (hi : i < n) (hxb : ∀ (k : Nat) (x : Int), xs[k]? = some x → 0 ≤ x ∧ x ≤ 1000) (h : Ints W R n xs) (hp : Ints W B n ps) => rowc_impl b R n c xs i B d ps W hok n7 hi hxb hbars h hp)
  have hend : Hid (costTo b xss ps n = costI b xss ps) := Lib.hid (by rw [costI, hlen.out])
  clear hok hpk h hp hbars
  go_enter Try.func26, Try.ntmps26
  go_wp2
  generalize hw1 : w.alloc (.cells #[.int .i64 b.bars, .int .i64 b.rise, .int .i64 b.fall, .int .i64 b.clear, .int .i64 b.near] 25) = w1 at *
  clear hw1
  generalize hN : w.heap.size = N at *
  replace hN := Lib.hid hN
  go_loopw [7, 12] (fun t i wr => ∃ k : Nat, k ≤ n ∧ i = .int .i64 k ∧ t = .int .i64 (costTo b xss ps k) ∧ Below w1.heap.size w1 wr) (fun _ i _ => n - (intOf i).toNat)
  case atStart => exact ⟨0, by omega, rfl, rfl, Below.refl _ _⟩
  case round =>
    obtain ⟨k, hk, rfl, rfl, hbo⟩ := hrel
    by_cases hlt : k < n
    · obtain ⟨ba, oa, R, m, cc, xs, rfl, hb, hx, f0, hI, hm⟩ := iss_at (hS.below hbo) hlt
      obtain ⟨rl, rb⟩ := hrows.out k xs hx.out
      have hmn : n = m := by rw [← rl, hI.1]
      subst hmn
      have hk0 : (0 : Int) ≤ (k : Int) := Int.natCast_nonneg _
      have hk1 : (k : Int) < (n : Int) := by omega
      obtain ⟨d0, d1, d2, d3, d4⟩ := hnew.out.step hbo
      have hnxt : Hid (costTo b xss ps (k + 1) = costTo b xss ps k + costRow b ps xs k n) := Lib.hid (by rw [costTo_succ hx.out, hlen.out])
      have hcT := hct.out k (by omega)
      have hcR := hcr.out xs rb k n
      have hcall := Lib.hid (hrc.out R cc xs k wr hlt rb hI (hQ.below hbo))
      clear rl rb
      generalize hTT : costTo b xss ps k = TT at *
      replace hTT := Lib.hid hTT
      generalize hRR : costRow b ps xs k n = RR at *
      replace hRR := Lib.hid hRR
      have hs1 : 0 ≤ TT + RR := by omega
      have hs2 : TT + RR ≤ 100000000 := by omega
      go_wp2_with fail
      refine (hcall.out).mono ?_
      rintro e w2 ⟨rfl, hb1⟩
      go_wp2
      go_roundw
      case rel => exact ⟨k + 1, by omega, by go_num, by rw [hnxt.out], hbo.step hb1⟩
      case measure => simp [intOf]; omega
    · obtain rfl : k = n := by omega
      rw [hend.out]
      go_wp2
      go_ret
      obtain rfl := hN.out
      exact ⟨rfl, hb0.out.step hbo⟩
end Go.Proofs.Ytbhiimleagldgaa
