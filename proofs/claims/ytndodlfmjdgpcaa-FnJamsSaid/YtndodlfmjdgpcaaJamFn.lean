/- The law on jams as one call: for every input it returns true. -/
import Derived.Test.YtndodlfmjdgpcaaJamFn0
import Derived.Test.YtndodlfmjdgpcaaDraw3b
import Derived.Deep.RegionHeld3
namespace Go.Proofs.Ytndodlfmjdgpcaa
open Go.RowKit
set_option linter.unusedVariables false
set_option linter.unusedSimpArgs false

theorem chain_good {hi : Int} {xs : List StrokeD} (hh : hi ≤ 1000000) (h : chain hi 0 xs = true) : ∀ x ∈ xs, x.good := fun x hx => by
  obtain ⟨k, hk⟩ := List.getElem?_of_mem hx
  obtain ⟨h1, h2, h3⟩ := chain_all h k x hk
  have h4 := isIn_iff.1 h1
  unfold StrokeD.good
  simp [Lit.wf, IntKind.min, IntKind.max, IntKind.signed, IntKind.bits]
  omega
theorem basket_good {b : BasketD} (h : basketOk b = true) : b.good := by
  rw [basketOk_iff] at h
  unfold BasketD.good
  simp [Lit.wf, IntKind.min, IntKind.max, IntKind.signed, IntKind.bits]
  omega

def scanR (b : BasketD) (xs : List StrokeD) (x : Nat) (o : Option Nat) : Option (Nat × Nat) := match o with
  | some k => some (x, k)
  | none => scanI b xs (x + 1) (xs.drop (x + 1))
theorem scanI_R {b : BasketD} {xs : List StrokeD} {x : Nat} {X : StrokeD} (hX : xs[x]? = some X) : scanI b xs x (xs.drop x) = scanR b xs x (scanJ b X 0 ((xs.take x).drop 0)) := by
  rw [List.drop_zero]
  cases h : scanJ b X 0 (xs.take x) with
  | none => rw [scanI_no hX h]; rfl
  | some k => rw [scanI_yes hX h]; rfl
theorem jam_both {b : BasketD} {xs : List StrokeD} {x y n : Nat} {X Y : StrokeD} (hX : xs[x]? = some X) (hY : xs[y]? = some Y) (hyx : y < x) (hx : x < n) (hj : jamB b Y X = true) (hp : y ∈ printAt b xs n) : ¬ x ∈ printAt b xs n := fun h => by
  have h1 := (print_iff hX hx).1 h
  rw [List.any_eq_false] at h1
  exact h1 y (print_back hyx (by omega) hp) (by rw [jamX_of hY]; exact hj)

set_option maxRecDepth 100000 in
set_option maxHeartbeats 6400000 in
theorem fnJams_any (A0 : Option Addr) (n0 c0 : Nat) (xs0 : List Int) (A1 : Option Addr) (n1 c1 : Nat) (xs1 : List Int) (w : World) (h0 : n0 ≤ maxLen ∧ Bytes w A0 n0 xs0 ∧ ∀ x ∈ xs0, byteGood x) (h1 : n1 ≤ maxLen ∧ Bytes w A1 n1 xs1 ∧ ∀ x ∈ xs1, byteGood x) :
    Calls Try.prog 3 #[.slice A0 n0 c0, .slice A1 n1 c1] w fun e w' => e = .returned (.bool true) ∧ Below w.heap.size w w' := by
  obtain ⟨hm0, P0, hg0⟩ := h0
  obtain ⟨hm1, P1, hg1⟩ := h1
  have hlong := long_any A0 A1 n0 c0 n1 c1 w hm0 hm1 _ rfl
  have hba := Lib.hid (a2basket_any A0 n0 c0 xs0 w hm0 P0 hg0)
  cases hlv : (decide (3000 < n0) || decide (3000 < n1)) with
  | true =>
    rw [hlv] at hlong
    replace hlong := Lib.hid hlong
    clear hlv
    go_enter Try.func3, Try.ntmps3
    go_wp2_with fail
    refine hlong.out.mono ?_
    rintro e w' ⟨rfl, rfl⟩
    go_wp2
    go_ret
    exact ⟨rfl, Below.refl _ _⟩
  | false =>
    rw [hlv] at hlong
    replace hlong := Lib.hid hlong
    clear hlv
    go_enter Try.func3, Try.ntmps3
    go_wp2_with fail
    refine hlong.out.mono ?_
    rintro e w' ⟨rfl, rfl⟩
    go_wp2_with fail
    refine hba.out.mono ?_
    rintro e w1 ⟨b, rfl, hbok, h7, hb1⟩
    have hbr := basketOk_iff.1 hbok
    have hbg := basket_good hbok
    have hB0 := BRow.new w1 b.bars b.rise b.fall b.clear b.near
    have hbl0 := below_a1 w1 (.cells #[.int .i64 b.bars, .int .i64 b.rise, .int .i64 b.fall, .int .i64 b.clear, .int .i64 b.near] 25)
    have hst := Lib.hid (a2strokes_any A1 n1 c1 xs1 b _ hm1 ((P1.below hb1).below hbl0) hg1 (by omega) (by omega))
    have hd0 := hb1.step hbl0
    have hR0 := hB0.lt
    clear hba hlong P0 P1 hg0 hg1 hm0 hm1 hbr
    go_wp2_with fail
    generalize w1.alloc (.cells #[.int .i64 b.bars, .int .i64 b.rise, .int .i64 b.fall, .int .i64 b.clear, .int .i64 b.near] 25) = w2 at *
    generalize w1.heap.size = R at *
    clear hb1 hbl0
    refine hst.out.mono ?_
    rintro e w3 ⟨A, n, c, xs, rfl, hn, hcap, hS, hch, hb3⟩
    have hlen := hS.1
    have hok : strokesOk b xs = true := strokesOk_iff.2 ⟨hbok, by omega, hch⟩
    have hxg := chain_good (by have := (basketOk_iff.1 hbok).1.2; omega) hch
    have hpair := fun (q k : Nat) (x y : StrokeD) (hq : q ≤ k) (hx : xs[q]? = some x) (hy : xs[k]? = some y) => pair_ok hok hq hx hy
    replace hpair := Lib.hid hpair
    have hd3 := hd0.step hb3
    have hB3 := hB0.below hb3
    have hfj := fun W (hW : Strokes W A n xs) => fj_any b A n c xs W hbg hW (by omega) hcap hxg
    have hcj := fun W (hW : Strokes W A n xs) => cj_any b A n c xs W hbg hW (by omega) hcap hxg
    have hpr := fun W (hW : Strokes W A n xs) => pr_impl b A n c xs W hbg hW (by omega) hxg
    have hfv : firstJam b xs = (match scanI b xs 0 xs with | some p => ((p.1 : Int), (p.2 : Int), 0) | none => (0, 0, 3)) := by
      rw [firstJam, if_pos hok]
      cases scanI b xs 0 xs <;> rfl
    have hcv : countJams b xs = ((cntI b xs 0 xs : Int), 0) := by rw [countJams, if_pos hok]
    have hpv : printed b xs = toI (printAt b xs n) := by rw [printed, if_pos hok, hlen]
    have hov : okCode b xs = 0 := by rw [okCode, if_pos hok]
    rw [hcv] at hcj
    rw [hpv, hov] at hpr
    have hcode : Hid (((firstJam b xs).2.2 == 0) = decide ((0 : Int) < (cntI b xs 0 xs : Int))) := Lib.hid (by
      rw [hfv]
      have hsn := scan_none_I (b := b) (xs := xs) (l := xs) (i := 0)
      cases hs : scanI b xs 0 xs with
      | none =>
        rw [hsn.1 hs]
        rfl
      | some p =>
        have : ¬ cntI b xs 0 xs = 0 := fun h => by rw [hsn.2 h] at hs; cases hs
        rw [decide_eq_true (by omega)]
        rfl)
    have hfin : Hid (∀ f g : Int, ((f = -1 ∧ scanI b xs 0 xs = none) ∨ ∃ p, scanI b xs 0 xs = some p ∧ f = (p.1 : Int) ∧ g = (p.2 : Int)) → (f = -1 ∧ (firstJam b xs).2.2 = 3) ∨ (0 ≤ f ∧ (firstJam b xs).1 = f ∧ (firstJam b xs).2.1 = g)) := Lib.hid fun f g h => by
      rw [hfv]
      rcases h with ⟨h1, h2⟩ | ⟨p, h1, h2, h3⟩
      · left
        rw [h2]
        exact ⟨h1, rfl⟩
      · right
        rw [h1]
        exact ⟨by omega, h2.symm, h3.symm⟩
    have hcle : Hid (cntI b xs 0 xs ≤ 200) := Lib.hid (by
      have := cntI_le (b := b) (xs := xs) (l := xs) (i := 0)
      have h2 : xs.length * xs.length ≤ 12 * 12 := Nat.mul_le_mul (by omega) (by omega)
      omega)
    have hmws : Hid (∀ (u v : StrokeD) (W : World), hasBar b u.bar = true → hasBar b v.bar = true → u.good → v.good → Calls Try.prog 18 #[.agg #[.int .i64 b.bars, .int .i64 b.rise, .int .i64 b.fall, .int .i64 b.clear, .int .i64 b.near], .int .i64 u.bar, .int .i64 v.bar] W fun e w' => e = .returned (.tuple #[.int .i64 (waitI b u.bar v.bar), .int .i64 0]) ∧ Below W.heap.size W w') := Lib.hid fun u v W hu hv gu gv => by
      have h := mw_impl b u.bar v.bar W hbg gu.1 gv.1
      have hmv : mustWait b u.bar v.bar = (waitI b u.bar v.bar, 0) := by rw [mustWait, if_pos hbok, hu, hv]; rfl
      rw [hmv] at h
      exact h
    have hwr := waitI_range hbok
    replace hxg := Lib.hid hxg
    obtain ⟨q0, q1, q2, q3, q4⟩ := hB3.cells
    have hbar : Hid (∀ (k : Nat) (x : StrokeD), xs[k]? = some x → hasBar b x.bar = true ∧ x.good ∧ 0 ≤ x.tick ∧ x.tick ≤ 1000000) := Lib.hid fun k x hx => by
      obtain ⟨o1, o2, o3, o4, o5, o6⟩ := hpair.out k k x x (Nat.le_refl _) hx hx
      exact ⟨o2, hxg.out x (List.mem_of_getElem? hx), o4, o6⟩
    clear hpair hxg hfv hcv hpv hov hbok hbg hch hok hst hd0 hb3 hB0
    replace hcj := Lib.hid hcj
    replace hpr := Lib.hid hpr
    generalize (firstJam b xs).1 = fa at *
    generalize (firstJam b xs).2.1 = fb at *
    generalize (firstJam b xs).2.2 = fc at *
    obtain ⟨cn, hcn⟩ : ∃ cn, cntI b xs 0 xs = cn := ⟨_, rfl⟩
    rw [hcn] at hcj hcode hcle
    have g1 := hcode.out
    replace hcn := Lib.hid hcn
    have hcn0 : (0 : Int) ≤ (cn : Int) := Int.natCast_nonneg _
    go_wp2_with fail
    refine (hfj w3 hS).mono ?_
    clear hfj
    rintro e w4 ⟨rfl, hb4⟩
    have hS4 := hS.below hb4
    have hB4 := hB3.below hb4
    have hd4 := hd3.step hb4
    obtain ⟨r0, r1, r2, r3, r4⟩ := hB4.cells
    clear hS hB3 hd3 hb4 q0 q1 q2 q3 q4
    go_wp2_with fail
    refine (hcj.out w4 hS4).mono ?_
    clear hcj
    rintro e w5 ⟨rfl, hb5⟩
    have hS5 := hS4.below hb5
    have hB5 := hB4.below hb5
    have hd5 := hd4.step hb5
    obtain ⟨s0, s1, s2, s3, s4⟩ := hB5.cells
    clear hS4 hB4 hd4 hb5 r0 r1 r2 r3 r4
    go_wp2_with fail
    refine (hpr.out w5 hS5).mono ?_
    clear hpr
    rintro e w6 ⟨Ap, np, cp, rfl, hnp, hOp, hb6⟩
    have hS6 := hS5.below hb6
    have hB6 := hB5.below hb6
    have hd6 := hd5.step hb6
    have hIp := hOp.srow
    clear hS5 hB5 hd5 hb6 s0 s1 s2 s3 s4 hOp
    have hris := Lib.hid (rises_any Ap np cp (toI (printAt b xs n)) (n : Int) w6 hIp hnp (fun k x h => print_in h) (fun k x y h1 h2 => print_rise h1 h2))
    have hhas := fun (k : Nat) (W : World) (hW : Below w6.heap.size w6 W) => has_any Ap np cp (toI (printAt b xs n)) (k : Int) W (hIp.below hW) hnp
    simp only [toI_mem] at hhas
    replace hhas := Lib.hid hhas
    have hp0 : Hid (0 < n → decide (0 ∈ printAt b xs n) = true) := Lib.hid fun h => decide_eq_true (print_zero h (by omega))
    go_wp2_with fail
    refine hris.out.mono ?_
    clear hris
    rintro e w7 ⟨rfl, hb7⟩
    by_cases hn0 : 0 < n
    · have gn : decide ((0 : Int) < (n : Int)) = true := decide_eq_true (by omega)
      have hh0 := hhas.out 0 w7 hb7
      rw [hp0.out hn0] at hh0
      replace hh0 := Lib.hid hh0
      go_wp2_with fail
      refine hh0.out.mono ?_
      rintro e w' ⟨rfl, rfl⟩
      go_wp2
      go_loopw [14, 15, 16, 17] (fun jv fv gv xv wr => ∃ (x J : Nat) (f g : Int), x ≤ n ∧ xv = .int .i64 x ∧ jv = .int .i64 (J : Int) ∧ fv = .int .i64 f ∧ gv = .int .i64 g ∧ J + cntI b xs x (xs.drop x) = cn ∧ -1 ≤ f ∧ ((f = -1 ∧ scanI b xs 0 xs = scanI b xs x (xs.drop x)) ∨ (0 ≤ f ∧ ∃ p, scanI b xs 0 xs = some p ∧ f = (p.1 : Int) ∧ g = (p.2 : Int))) ∧ Below w6.heap.size w6 wr) (fun _ _ _ xv _ => n - (intOf xv).toNat)
      case atStart => exact ⟨0, 0, -1, -1, by omega, rfl, rfl, rfl, rfl, by rw [Nat.zero_add]; exact hcn.out, by omega, .inl ⟨rfl, rfl⟩, hb7⟩
      case round =>
        rename World => wo
        obtain ⟨x, J, f, g, hx, rfl, rfl, rfl, rfl, hJ, hf1, hfs, hbo⟩ := hrel
        replace hfs := Lib.hid hfs
        by_cases hlt : x < n
        · obtain ⟨sb, so, X, rfl, hsb, hX, X0, X1⟩ := stroke_at (hS6.below hbo) hlt
          obtain ⟨ob, ogd, ot0, ot1⟩ := hbar.out x X hX.out
          have hx0 : (0 : Int) ≤ (x : Int) := Int.natCast_nonneg _
          have hx1 : (x : Int) < (n : Int) := by omega
          have hst0 := Lib.hid (scanI_R (b := b) hX.out)
          have hct0 := cntI_drop (b := b) hX.out
          have htl : (xs.take x).length = x := by rw [List.length_take]; omega
          go_wp2
          go_loopw [14, 15, 16, 18, 19] (fun jv fv gv bv yv wr => ∃ (y J' : Nat) (f' g' : Int), y ≤ x ∧ yv = .int .i64 y ∧ jv = .int .i64 (J' : Int) ∧ fv = .int .i64 f' ∧ gv = .int .i64 g' ∧ bv = .bool ((printAt b xs y).any (jamX b xs X)) ∧ J' + cntJ b X ((xs.take x).drop y) + cntI b xs (x + 1) (xs.drop (x + 1)) = cn ∧ -1 ≤ f' ∧ ((f' = -1 ∧ scanI b xs 0 xs = scanR b xs x (scanJ b X y ((xs.take x).drop y))) ∨ (0 ≤ f' ∧ ∃ p, scanI b xs 0 xs = some p ∧ f' = (p.1 : Int) ∧ g' = (p.2 : Int))) ∧ Below wo.heap.size wo wr) (fun _ _ _ _ yv _ => x - (intOf yv).toNat)
          case atStart =>
            refine ⟨0, J, f, g, by omega, rfl, rfl, rfl, rfl, rfl, by rw [List.drop_zero, Nat.add_assoc, ← hct0]; exact hJ, hf1, ?_, Below.refl _ _⟩
            rcases hfs.out with ⟨h1, h2⟩ | h2
            · exact .inl ⟨h1, h2.trans hst0.out⟩
            · exact .inr h2
          case round =>
            rename World => wq
            obtain ⟨y, J', f', g', hy, rfl, rfl, rfl, rfl, rfl, hJ', hf1', hfs', hbq⟩ := hrel
            replace hfs' := Lib.hid hfs'
            replace hJ' := Lib.hid hJ'
            by_cases hly : y < x
            · obtain ⟨sb', so', Y, hAe, hsb', hY, Y0, Y1⟩ := stroke_at ((hS6.below hbo).below hbq) (show y < n by omega)
              cases hAe
              obtain ⟨pb, pgd, pt0, pt1⟩ := hbar.out y Y hY.out
              have hy0 : (0 : Int) ≤ (y : Int) := Int.natCast_nonneg _
              have hy1 : (y : Int) < (n : Int) := by omega
              have hyx : (y : Int) < (x : Int) := by omega
              have hm1 := Lib.hid (fun W => hmws.out X Y W ob pb ogd pgd)
              have hm2 := hmws.out Y X
              rw [waitI_comm b Y.bar X.bar] at hm2
              replace hm2 := Lib.hid (fun W => hm2 W pb ob pgd ogd)
              obtain ⟨wl, wh⟩ := hwr X.bar Y.bar
              have hjd : jamB b Y X = decide (X.tick - Y.tick < waitI b X.bar Y.bar) := by rw [jamB, waitI_comm b Y.bar X.bar]
              have hcj1 := cntJ_drop (b := b) (s := X) (take_at hly hY.out)
              have hsj1 := scanJ_drop (b := b) (s := X) (take_at hly hY.out)
              have hany := any_next (b := b) (s := X) hY.out (show y < n by omega)
              have hboth := Lib.hid (jam_both (b := b) hX.out hY.out hly hlt)
              generalize waitI b X.bar Y.bar = a at *
              obtain ⟨b0, b1, b2, b3, b4⟩ := ((hB6.below hbo).below hbq).cells
              have e0 := cell_step X0 hbq
              have e1 := cell_step X1 hbq
              have hsub : IntKind.i64.wrap (X.tick - Y.tick) = X.tick - Y.tick := IntWalk.i64_in _ (by omega)
              replace hX := Lib.hid hX
              go_wp2_with fail
              refine wp_region_held_drew (S := fun w' => Below wq.heap.size wq w' ∧ w'.cell? ⟨R, 0, none⟩ = some (.int .i64 b.bars) ∧ w'.cell? ⟨R, 1, none⟩ = some (.int .i64 b.rise) ∧ w'.cell? ⟨R, 2, none⟩ = some (.int .i64 b.fall) ∧ w'.cell? ⟨R, 3, none⟩ = some (.int .i64 b.clear) ∧ w'.cell? ⟨R, 4, none⟩ = some (.int .i64 b.near) ∧ w'.cell? ⟨sb, so + x * 2, none⟩ = some (.int .i64 X.bar) ∧ w'.cell? ⟨sb, so + y * 2, none⟩ = some (.int .i64 Y.bar)) (by kernel_rfl) ?_ (fun hHeld => ?_)
              · exact ⟨(Below.refl _ _).drew, b0, b1, b2, b3, b4, e0, Y0⟩
              refine wpAnyH_take (i := 0) (v := ?va0) rfl (by kernel_rfl) (by kernel_rfl) (by kernel_rfl) (fun _ _ _ h => h) (Or.inl ⟨rfl, ?ya0⟩) (by assumption) ?_
              case ya0 => (intro w hSw; (try dsimp only at hSw); go_simp; first | done | with_reducible rfl)
              simp only [List.getElem_toArray, List.getElem_cons_succ, List.getElem_cons_zero, Act.put, List.setIfInBounds_toArray, List.set_cons_zero, List.set_cons_succ]
              refine wpAnyH_take (i := 1) (v := ?va1) rfl (by kernel_rfl) (by kernel_rfl) (by kernel_rfl) (fun _ _ _ h => h) (Or.inl ⟨rfl, ?ya1⟩) (by assumption) ?_
              case ya1 => (intro w hSw; (try dsimp only at hSw); go_simp; first | done | with_reducible rfl)
              simp only [List.getElem_toArray, List.getElem_cons_succ, List.getElem_cons_zero, Act.put, List.setIfInBounds_toArray, List.set_cons_zero, List.set_cons_succ]
              refine wpAnyH_take (i := 2) (v := ?va2) rfl (by kernel_rfl) (by kernel_rfl) (by kernel_rfl) (fun _ _ _ h => h) (Or.inl ⟨rfl, ?ya2⟩) (by assumption) ?_
              case ya2 => (intro w hSw; (try dsimp only at hSw); go_simp; first | done | with_reducible rfl)
              simp only [List.getElem_toArray, List.getElem_cons_succ, List.getElem_cons_zero, Act.put, List.setIfInBounds_toArray, List.set_cons_zero, List.set_cons_succ]
              refine wpAnyH_take (i := 3) (v := ?va3) rfl (by kernel_rfl) (by kernel_rfl) (by kernel_rfl) (fun _ _ _ h => h) (Or.inl ⟨rfl, ?ya3⟩) (by assumption) ?_
              case ya3 => (intro w hSw; (try dsimp only at hSw); go_simp; first | done | with_reducible rfl)
              simp only [List.getElem_toArray, List.getElem_cons_succ, List.getElem_cons_zero, Act.put, List.setIfInBounds_toArray, List.set_cons_zero, List.set_cons_succ]
              refine wpAnyH_take (i := 4) (v := ?va4) rfl (by kernel_rfl) (by kernel_rfl) (by kernel_rfl) (fun _ _ _ h => h) (Or.inl ⟨rfl, ?ya4⟩) (by assumption) ?_
              case ya4 => (intro w hSw; (try dsimp only at hSw); go_simp; first | done | with_reducible rfl)
              simp only [List.getElem_toArray, List.getElem_cons_succ, List.getElem_cons_zero, Act.put, List.setIfInBounds_toArray, List.set_cons_zero, List.set_cons_succ]
              refine wpAnyH_take (i := 5) (v := ?va5) rfl (by kernel_rfl) (by kernel_rfl) (by kernel_rfl) (fun _ _ _ h => h) (Or.inl ⟨rfl, ?ya5⟩) (by assumption) ?_
              case ya5 => (intro w hSw; (try dsimp only at hSw); go_simp; first | done | with_reducible rfl)
              simp only [List.getElem_toArray, List.getElem_cons_succ, List.getElem_cons_zero, Act.put, List.setIfInBounds_toArray, List.set_cons_zero, List.set_cons_succ]
              refine wpAnyH_take (i := 6) (v := ?va6) rfl (by kernel_rfl) (by kernel_rfl) (by kernel_rfl) (fun _ _ _ h => h) (Or.inl ⟨rfl, ?ya6⟩) (by assumption) ?_
              case ya6 => (intro w hSw; (try dsimp only at hSw); go_simp; first | done | with_reducible rfl)
              simp only [List.getElem_toArray, List.getElem_cons_succ, List.getElem_cons_zero, Act.put, List.setIfInBounds_toArray, List.set_cons_zero, List.set_cons_succ]
              refine wpAnyH_take (i := 7) (v := ?va7) rfl (by kernel_rfl) (by kernel_rfl) (by kernel_rfl) (fun _ _ _ h => h) (Or.inl ⟨rfl, ?ya7⟩) (by assumption) ?_
              case ya7 => (intro w hSw; (try dsimp only at hSw); go_simp; first | done | with_reducible rfl)
              simp only [List.getElem_toArray, List.getElem_cons_succ, List.getElem_cons_zero, Act.put, List.setIfInBounds_toArray, List.set_cons_zero, List.set_cons_succ]
              refine wpAnyH_take (i := 8) (v := ?va8) rfl (by kernel_rfl) (by kernel_rfl) (by kernel_rfl) (fun _ _ _ h => h) (Or.inl ⟨rfl, ?ya8⟩) (by assumption) ?_
              case ya8 => (intro w hSw; (try dsimp only at hSw); go_simp; first | done | with_reducible rfl)
              simp only [List.getElem_toArray, List.getElem_cons_succ, List.getElem_cons_zero, Act.put, List.setIfInBounds_toArray, List.set_cons_zero, List.set_cons_succ]
              refine wpAnyH_take (i := 9) (v := ?va9) rfl (by kernel_rfl) (by kernel_rfl) (by kernel_rfl) (fun _ _ _ h => h) (Or.inl ⟨rfl, ?ya9⟩) (by assumption) ?_
              case ya9 => (intro w hSw; (try dsimp only at hSw); go_simp; first | done | with_reducible rfl)
              simp only [List.getElem_toArray, List.getElem_cons_succ, List.getElem_cons_zero, Act.put, List.setIfInBounds_toArray, List.set_cons_zero, List.set_cons_succ]
              refine wpAnyH_take (i := 10) (v := ?va10) rfl (by kernel_rfl) (by kernel_rfl) (by kernel_rfl) (fun _ _ _ h => h) (Or.inl ⟨rfl, ?ya10⟩) (by assumption) ?_
              case ya10 => (intro w hSw; (try dsimp only at hSw); go_simp; first | done | with_reducible rfl)
              simp only [List.getElem_toArray, List.getElem_cons_succ, List.getElem_cons_zero, Act.put, List.setIfInBounds_toArray, List.set_cons_zero, List.set_cons_succ]
              refine wpAnyH_ready (rs := [11]) (by kernel_rfl) (by simp) ?_
              refine AllReadyH.cons rfl (fun K hK => ?_) AllReadyH.nil
              go_simp
              refine (hm1.out _).mono ?_
              rintro e w1 ⟨rfl, hb1⟩
              go_wp2_with fail
              refine hK.out _ _ ?_ (fun hHeld => ?_)
              · exact kept7 (by assumption) hb1
              clear hK K hb1
              try simp only [List.getElem_toArray, List.getElem_cons_succ, List.getElem_cons_zero, Act.put, List.setIfInBounds_toArray, List.set_cons_zero, List.set_cons_succ]
              refine wpAnyH_take (i := 12) (v := ?va12) rfl (by kernel_rfl) (by kernel_rfl) (by kernel_rfl) (fun _ _ _ h => h) (Or.inl ⟨rfl, ?ya12⟩) (by assumption) ?_
              case ya12 => (intro w hSw; (try dsimp only at hSw); go_simp; first | done | with_reducible rfl)
              simp only [List.getElem_toArray, List.getElem_cons_succ, List.getElem_cons_zero, Act.put, List.setIfInBounds_toArray, List.set_cons_zero, List.set_cons_succ]
              refine wpAnyH_take (i := 13) (v := ?va13) rfl (by kernel_rfl) (by kernel_rfl) (by kernel_rfl) (fun _ _ _ h => h) (Or.inl ⟨rfl, ?ya13⟩) (by assumption) ?_
              case ya13 => (intro w hSw; (try dsimp only at hSw); go_simp; first | done | with_reducible rfl)
              simp only [List.getElem_toArray, List.getElem_cons_succ, List.getElem_cons_zero, Act.put, List.setIfInBounds_toArray, List.set_cons_zero, List.set_cons_succ]
              refine wpAnyH_take (i := 14) (v := ?va14) rfl (by kernel_rfl) (by kernel_rfl) (by kernel_rfl) (fun _ _ _ h => h) (Or.inl ⟨rfl, ?ya14⟩) (by assumption) ?_
              case ya14 => (intro w hSw; (try dsimp only at hSw); go_simp; first | done | with_reducible rfl)
              simp only [List.getElem_toArray, List.getElem_cons_succ, List.getElem_cons_zero, Act.put, List.setIfInBounds_toArray, List.set_cons_zero, List.set_cons_succ]
              refine wpAnyH_take (i := 15) (v := ?va15) rfl (by kernel_rfl) (by kernel_rfl) (by kernel_rfl) (fun _ _ _ h => h) (Or.inl ⟨rfl, ?ya15⟩) (by assumption) ?_
              case ya15 => (intro w hSw; (try dsimp only at hSw); go_simp; first | done | with_reducible rfl)
              simp only [List.getElem_toArray, List.getElem_cons_succ, List.getElem_cons_zero, Act.put, List.setIfInBounds_toArray, List.set_cons_zero, List.set_cons_succ]
              refine wpAnyH_take (i := 16) (v := ?va16) rfl (by kernel_rfl) (by kernel_rfl) (by kernel_rfl) (fun _ _ _ h => h) (Or.inl ⟨rfl, ?ya16⟩) (by assumption) ?_
              case ya16 => (intro w hSw; (try dsimp only at hSw); go_simp; first | done | with_reducible rfl)
              simp only [List.getElem_toArray, List.getElem_cons_succ, List.getElem_cons_zero, Act.put, List.setIfInBounds_toArray, List.set_cons_zero, List.set_cons_succ]
              refine wpAnyH_done (by kernel_rfl) ?_ _
              obtain ⟨h3, b0, b1, b2, b3, b4, e0, y0⟩ := hHeld
              have hbq2 := hbq.step h3
              have t0 := cell_step e1 h3
              have t1 := cell_step Y1 h3
              clear hbq Y0 Y1 X0
              rename World => wz
              go_wp2_with fail
              refine wp_region_held_drew (S := fun w' => Below wz.heap.size wz w' ∧ w'.cell? ⟨R, 0, none⟩ = some (.int .i64 b.bars) ∧ w'.cell? ⟨R, 1, none⟩ = some (.int .i64 b.rise) ∧ w'.cell? ⟨R, 2, none⟩ = some (.int .i64 b.fall) ∧ w'.cell? ⟨R, 3, none⟩ = some (.int .i64 b.clear) ∧ w'.cell? ⟨R, 4, none⟩ = some (.int .i64 b.near) ∧ w'.cell? ⟨sb, so + x * 2, none⟩ = some (.int .i64 X.bar) ∧ w'.cell? ⟨sb, so + y * 2, none⟩ = some (.int .i64 Y.bar)) (by kernel_rfl) ?_ (fun hHeld => ?_)
              · exact ⟨(Below.refl _ _).drew, b0, b1, b2, b3, b4, e0, y0⟩
              refine wpAnyH_take (i := 0) (v := ?vb0) rfl (by kernel_rfl) (by kernel_rfl) (by kernel_rfl) (fun _ _ _ h => h) (Or.inl ⟨rfl, ?yb0⟩) (by assumption) ?_
              case yb0 => (intro w hSw; (try dsimp only at hSw); go_simp; first | done | with_reducible rfl)
              simp only [List.getElem_toArray, List.getElem_cons_succ, List.getElem_cons_zero, Act.put, List.setIfInBounds_toArray, List.set_cons_zero, List.set_cons_succ]
              refine wpAnyH_take (i := 1) (v := ?vb1) rfl (by kernel_rfl) (by kernel_rfl) (by kernel_rfl) (fun _ _ _ h => h) (Or.inl ⟨rfl, ?yb1⟩) (by assumption) ?_
              case yb1 => (intro w hSw; (try dsimp only at hSw); go_simp; first | done | with_reducible rfl)
              simp only [List.getElem_toArray, List.getElem_cons_succ, List.getElem_cons_zero, Act.put, List.setIfInBounds_toArray, List.set_cons_zero, List.set_cons_succ]
              refine wpAnyH_take (i := 2) (v := ?vb2) rfl (by kernel_rfl) (by kernel_rfl) (by kernel_rfl) (fun _ _ _ h => h) (Or.inl ⟨rfl, ?yb2⟩) (by assumption) ?_
              case yb2 => (intro w hSw; (try dsimp only at hSw); go_simp; first | done | with_reducible rfl)
              simp only [List.getElem_toArray, List.getElem_cons_succ, List.getElem_cons_zero, Act.put, List.setIfInBounds_toArray, List.set_cons_zero, List.set_cons_succ]
              refine wpAnyH_take (i := 3) (v := ?vb3) rfl (by kernel_rfl) (by kernel_rfl) (by kernel_rfl) (fun _ _ _ h => h) (Or.inl ⟨rfl, ?yb3⟩) (by assumption) ?_
              case yb3 => (intro w hSw; (try dsimp only at hSw); go_simp; first | done | with_reducible rfl)
              simp only [List.getElem_toArray, List.getElem_cons_succ, List.getElem_cons_zero, Act.put, List.setIfInBounds_toArray, List.set_cons_zero, List.set_cons_succ]
              refine wpAnyH_take (i := 4) (v := ?vb4) rfl (by kernel_rfl) (by kernel_rfl) (by kernel_rfl) (fun _ _ _ h => h) (Or.inl ⟨rfl, ?yb4⟩) (by assumption) ?_
              case yb4 => (intro w hSw; (try dsimp only at hSw); go_simp; first | done | with_reducible rfl)
              simp only [List.getElem_toArray, List.getElem_cons_succ, List.getElem_cons_zero, Act.put, List.setIfInBounds_toArray, List.set_cons_zero, List.set_cons_succ]
              refine wpAnyH_take (i := 5) (v := ?vb5) rfl (by kernel_rfl) (by kernel_rfl) (by kernel_rfl) (fun _ _ _ h => h) (Or.inl ⟨rfl, ?yb5⟩) (by assumption) ?_
              case yb5 => (intro w hSw; (try dsimp only at hSw); go_simp; first | done | with_reducible rfl)
              simp only [List.getElem_toArray, List.getElem_cons_succ, List.getElem_cons_zero, Act.put, List.setIfInBounds_toArray, List.set_cons_zero, List.set_cons_succ]
              refine wpAnyH_take (i := 6) (v := ?vb6) rfl (by kernel_rfl) (by kernel_rfl) (by kernel_rfl) (fun _ _ _ h => h) (Or.inl ⟨rfl, ?yb6⟩) (by assumption) ?_
              case yb6 => (intro w hSw; (try dsimp only at hSw); go_simp; first | done | with_reducible rfl)
              simp only [List.getElem_toArray, List.getElem_cons_succ, List.getElem_cons_zero, Act.put, List.setIfInBounds_toArray, List.set_cons_zero, List.set_cons_succ]
              refine wpAnyH_take (i := 7) (v := ?vb7) rfl (by kernel_rfl) (by kernel_rfl) (by kernel_rfl) (fun _ _ _ h => h) (Or.inl ⟨rfl, ?yb7⟩) (by assumption) ?_
              case yb7 => (intro w hSw; (try dsimp only at hSw); go_simp; first | done | with_reducible rfl)
              simp only [List.getElem_toArray, List.getElem_cons_succ, List.getElem_cons_zero, Act.put, List.setIfInBounds_toArray, List.set_cons_zero, List.set_cons_succ]
              refine wpAnyH_take (i := 8) (v := ?vb8) rfl (by kernel_rfl) (by kernel_rfl) (by kernel_rfl) (fun _ _ _ h => h) (Or.inl ⟨rfl, ?yb8⟩) (by assumption) ?_
              case yb8 => (intro w hSw; (try dsimp only at hSw); go_simp; first | done | with_reducible rfl)
              simp only [List.getElem_toArray, List.getElem_cons_succ, List.getElem_cons_zero, Act.put, List.setIfInBounds_toArray, List.set_cons_zero, List.set_cons_succ]
              refine wpAnyH_take (i := 9) (v := ?vb9) rfl (by kernel_rfl) (by kernel_rfl) (by kernel_rfl) (fun _ _ _ h => h) (Or.inl ⟨rfl, ?yb9⟩) (by assumption) ?_
              case yb9 => (intro w hSw; (try dsimp only at hSw); go_simp; first | done | with_reducible rfl)
              simp only [List.getElem_toArray, List.getElem_cons_succ, List.getElem_cons_zero, Act.put, List.setIfInBounds_toArray, List.set_cons_zero, List.set_cons_succ]
              refine wpAnyH_take (i := 10) (v := ?vb10) rfl (by kernel_rfl) (by kernel_rfl) (by kernel_rfl) (fun _ _ _ h => h) (Or.inl ⟨rfl, ?yb10⟩) (by assumption) ?_
              case yb10 => (intro w hSw; (try dsimp only at hSw); go_simp; first | done | with_reducible rfl)
              simp only [List.getElem_toArray, List.getElem_cons_succ, List.getElem_cons_zero, Act.put, List.setIfInBounds_toArray, List.set_cons_zero, List.set_cons_succ]
              refine wpAnyH_ready (rs := [11]) (by kernel_rfl) (by simp) ?_
              refine AllReadyH.cons rfl (fun K hK => ?_) AllReadyH.nil
              go_simp
              refine (hm2.out _).mono ?_
              rintro e w1 ⟨rfl, hb1⟩
              go_wp2_with fail
              refine hK.out _ _ ?_ (fun hHeld => ?_)
              · exact kept7 (by assumption) hb1
              clear hK K hb1
              try simp only [List.getElem_toArray, List.getElem_cons_succ, List.getElem_cons_zero, Act.put, List.setIfInBounds_toArray, List.set_cons_zero, List.set_cons_succ]
              refine wpAnyH_take (i := 12) (v := ?vb12) rfl (by kernel_rfl) (by kernel_rfl) (by kernel_rfl) (fun _ _ _ h => h) (Or.inl ⟨rfl, ?yb12⟩) (by assumption) ?_
              case yb12 => (intro w hSw; (try dsimp only at hSw); go_simp; first | done | with_reducible rfl)
              simp only [List.getElem_toArray, List.getElem_cons_succ, List.getElem_cons_zero, Act.put, List.setIfInBounds_toArray, List.set_cons_zero, List.set_cons_succ]
              refine wpAnyH_take (i := 13) (v := ?vb13) rfl (by kernel_rfl) (by kernel_rfl) (by kernel_rfl) (fun _ _ _ h => h) (Or.inl ⟨rfl, ?yb13⟩) (by assumption) ?_
              case yb13 => (intro w hSw; (try dsimp only at hSw); go_simp; first | done | with_reducible rfl)
              simp only [List.getElem_toArray, List.getElem_cons_succ, List.getElem_cons_zero, Act.put, List.setIfInBounds_toArray, List.set_cons_zero, List.set_cons_succ]
              refine wpAnyH_take (i := 14) (v := ?vb14) rfl (by kernel_rfl) (by kernel_rfl) (by kernel_rfl) (fun _ _ _ h => h) (Or.inl ⟨rfl, ?yb14⟩) (by assumption) ?_
              case yb14 => (intro w hSw; (try dsimp only at hSw); go_simp; first | done | with_reducible rfl)
              simp only [List.getElem_toArray, List.getElem_cons_succ, List.getElem_cons_zero, Act.put, List.setIfInBounds_toArray, List.set_cons_zero, List.set_cons_succ]
              refine wpAnyH_take (i := 15) (v := ?vb15) rfl (by kernel_rfl) (by kernel_rfl) (by kernel_rfl) (fun _ _ _ h => h) (Or.inl ⟨rfl, ?yb15⟩) (by assumption) ?_
              case yb15 => (intro w hSw; (try dsimp only at hSw); go_simp; first | done | with_reducible rfl)
              simp only [List.getElem_toArray, List.getElem_cons_succ, List.getElem_cons_zero, Act.put, List.setIfInBounds_toArray, List.set_cons_zero, List.set_cons_succ]
              refine wpAnyH_take (i := 16) (v := ?vb16) rfl (by kernel_rfl) (by kernel_rfl) (by kernel_rfl) (fun _ _ _ h => h) (Or.inl ⟨rfl, ?yb16⟩) (by assumption) ?_
              case yb16 => (intro w hSw; (try dsimp only at hSw); go_simp; first | done | with_reducible rfl)
              simp only [List.getElem_toArray, List.getElem_cons_succ, List.getElem_cons_zero, Act.put, List.setIfInBounds_toArray, List.set_cons_zero, List.set_cons_succ]
              refine wpAnyH_done (by kernel_rfl) ?_ _
              obtain ⟨h4, b0, b1, b2, b3, b4, e0, y0⟩ := hHeld
              have hbq3 := hbq2.step h4
              have t0' := cell_step t0 h4
              have t1' := cell_step t1 h4
              clear hbq2 h3 t0 t1
              cases hjm : jamB b Y X with
              | false =>
                have gj : decide (a ≤ X.tick - Y.tick) = true := decide_eq_true (by rw [hjm] at hjd; have := hjd.symm; rw [decide_eq_false_iff_not] at this; omega)
                have hJ2 : Hid (J' + cntJ b X ((xs.take x).drop (y + 1)) + cntI b xs (x + 1) (xs.drop (x + 1)) = cn) := Lib.hid (by have := hJ'.out; rw [hcj1, hjm] at this; simpa using this)
                have hany2 : Hid ((printAt b xs (y + 1)).any (jamX b xs X) = (printAt b xs y).any (jamX b xs X)) := Lib.hid (by rw [hany, hjm, Bool.and_false, Bool.or_false])
                have hfs2 : Hid ((f' = -1 ∧ scanI b xs 0 xs = scanR b xs x (scanJ b X (y + 1) ((xs.take x).drop (y + 1)))) ∨ (0 ≤ f' ∧ ∃ p, scanI b xs 0 xs = some p ∧ f' = (p.1 : Int) ∧ g' = (p.2 : Int))) := Lib.hid (by
                  rcases hfs'.out with ⟨h1, h2⟩ | h2
                  · exact .inl ⟨h1, by rw [h2, hsj1, hjm]; rfl⟩
                  · exact .inr h2)
                clear hjm hjd hcj1 hsj1 hany
                go_wp2_with fail
                go_quiet (fail)
                go_wp2
                go_roundw
                case rel => exact ⟨y + 1, J', f', g', by omega, by go_num, rfl, rfl, rfl, by rw [hany2.out], hJ2.out, hf1', hfs2.out, below_drewN hbq3 _⟩
                case measure => simp [intOf]; omega
              | true =>
                have gj : decide (a ≤ X.tick - Y.tick) = false := decide_eq_false (by rw [hjm] at hjd; have := hjd.symm; rw [decide_eq_true_eq] at this; omega)
                have hJ2 : Hid ((J' + 1) + cntJ b X ((xs.take x).drop (y + 1)) + cntI b xs (x + 1) (xs.drop (x + 1)) = cn) := Lib.hid (by have := hJ'.out; rw [hcj1, hjm, if_pos rfl] at this; omega)
                have hany2 := hany
                rw [hjm, Bool.and_true] at hany2
                have hnb := hboth.out hjm
                have hJw : IntKind.i64.wrap ((J' : Int) + 1) = (J' : Int) + 1 := IntWalk.i64_in _ (by have := hJ'.out; have := hcle.out; omega)
                have hw9 : Below w6.heap.size w6 w1 := hbo.step hbq3
                by_cases hneg : f' < 0
                · have gneg : decide (f' < 0) = true := decide_eq_true hneg
                  have hfs2 : Hid (((x : Int) = -1 ∧ scanI b xs 0 xs = scanR b xs x (scanJ b X (y + 1) ((xs.take x).drop (y + 1)))) ∨ (0 ≤ (x : Int) ∧ ∃ p, scanI b xs 0 xs = some p ∧ (x : Int) = (p.1 : Int) ∧ (y : Int) = (p.2 : Int))) := Lib.hid (by
                    rcases hfs'.out with ⟨h1, h2⟩ | ⟨h1, h2⟩
                    · exact .inr ⟨hx0, (x, y), by rw [h2, hsj1, hjm]; rfl, rfl, rfl⟩
                    · omega)
                  clear hjm hjd hcj1 hsj1 hany
                  cases hpx : decide (x ∈ printAt b xs n) with
                  | true =>
                    have hhx := hhas.out x
                    rw [hpx] at hhx
                    replace hhx := Lib.hid hhx
                    have hpy : decide (y ∈ printAt b xs n) = false := decide_eq_false fun hq => hnb hq (of_decide_eq_true hpx)
                    have hhy := hhas.out y
                    rw [hpy] at hhy
                    replace hhy := Lib.hid hhy
                    rw [hpy] at hany2
                    cases hbl : (printAt b xs y).any (jamX b xs X) with
                    | true =>
                      rw [hbl] at hany2
                      replace hany2 := Lib.hid hany2
                      replace hpx := Lib.hid hpx
                      replace hpy := Lib.hid hpy
                      replace hbl := Lib.hid hbl
                      go_wp2_with fail
                      go_quiet (fail)
                      go_wp2_with fail
                      refine (hhx.out _ (below_drewN hw9 _)).mono ?_
                      rintro e w' ⟨rfl, rfl⟩
                      go_wp2_with fail
                      refine (hhy.out _ (below_drewN hw9 _)).mono ?_
                      rintro e w' ⟨rfl, rfl⟩
                      go_wp2
                      go_roundw
                      case rel => exact ⟨y + 1, J' + 1, (x : Int), (y : Int), by omega, by go_num, by go_num, rfl, rfl, by rw [hany2.out]; rfl, hJ2.out, by omega, hfs2.out, below_drewN hbq3 _⟩
                      case measure => simp [intOf]; omega
                    | false =>
                      rw [hbl] at hany2
                      replace hany2 := Lib.hid hany2
                      replace hpx := Lib.hid hpx
                      replace hpy := Lib.hid hpy
                      replace hbl := Lib.hid hbl
                      go_wp2_with fail
                      go_quiet (fail)
                      go_wp2_with fail
                      refine (hhx.out _ (below_drewN hw9 _)).mono ?_
                      rintro e w' ⟨rfl, rfl⟩
                      go_wp2_with fail
                      refine (hhy.out _ (below_drewN hw9 _)).mono ?_
                      rintro e w' ⟨rfl, rfl⟩
                      go_wp2_with fail
                      refine (hhy.out _ (below_drewN hw9 _)).mono ?_
                      rintro e w' ⟨rfl, rfl⟩
                      go_wp2
                      go_roundw
                      case rel => exact ⟨y + 1, J' + 1, (x : Int), (y : Int), by omega, by go_num, by go_num, rfl, rfl, by rw [hany2.out]; rfl, hJ2.out, by omega, hfs2.out, below_drewN hbq3 _⟩
                      case measure => simp [intOf]; omega
                  | false =>
                    have hhx := hhas.out x
                    rw [hpx] at hhx
                    replace hhx := Lib.hid hhx
                    cases hpy : decide (y ∈ printAt b xs n) with
                    | true =>
                      have hhy := hhas.out y
                      rw [hpy] at hhy
                      replace hhy := Lib.hid hhy
                      rw [hpy] at hany2
                      cases hbl : (printAt b xs y).any (jamX b xs X) with
                      | true =>
                        rw [hbl] at hany2
                        replace hany2 := Lib.hid hany2
                        replace hpx := Lib.hid hpx
                        replace hpy := Lib.hid hpy
                        replace hbl := Lib.hid hbl
                        go_wp2_with fail
                        go_quiet (fail)
                        go_wp2_with fail
                        refine (hhx.out _ (below_drewN hw9 _)).mono ?_
                        rintro e w' ⟨rfl, rfl⟩
                        go_wp2
                        go_roundw
                        case rel => exact ⟨y + 1, J' + 1, (x : Int), (y : Int), by omega, by go_num, by go_num, rfl, rfl, by rw [hany2.out]; rfl, hJ2.out, by omega, hfs2.out, below_drewN hbq3 _⟩
                        case measure => simp [intOf]; omega
                      | false =>
                        rw [hbl] at hany2
                        replace hany2 := Lib.hid hany2
                        replace hpx := Lib.hid hpx
                        replace hpy := Lib.hid hpy
                        replace hbl := Lib.hid hbl
                        go_wp2_with fail
                        go_quiet (fail)
                        go_wp2_with fail
                        refine (hhx.out _ (below_drewN hw9 _)).mono ?_
                        rintro e w' ⟨rfl, rfl⟩
                        go_wp2_with fail
                        refine (hhy.out _ (below_drewN hw9 _)).mono ?_
                        rintro e w' ⟨rfl, rfl⟩
                        go_wp2
                        go_roundw
                        case rel => exact ⟨y + 1, J' + 1, (x : Int), (y : Int), by omega, by go_num, by go_num, rfl, rfl, by rw [hany2.out]; rfl, hJ2.out, by omega, hfs2.out, below_drewN hbq3 _⟩
                        case measure => simp [intOf]; omega
                    | false =>
                      have hhy := hhas.out y
                      rw [hpy] at hhy
                      replace hhy := Lib.hid hhy
                      rw [hpy] at hany2
                      cases hbl : (printAt b xs y).any (jamX b xs X) with
                      | true =>
                        rw [hbl] at hany2
                        replace hany2 := Lib.hid hany2
                        replace hpx := Lib.hid hpx
                        replace hpy := Lib.hid hpy
                        replace hbl := Lib.hid hbl
                        go_wp2_with fail
                        go_quiet (fail)
                        go_wp2_with fail
                        refine (hhx.out _ (below_drewN hw9 _)).mono ?_
                        rintro e w' ⟨rfl, rfl⟩
                        go_wp2
                        go_roundw
                        case rel => exact ⟨y + 1, J' + 1, (x : Int), (y : Int), by omega, by go_num, by go_num, rfl, rfl, by rw [hany2.out]; rfl, hJ2.out, by omega, hfs2.out, below_drewN hbq3 _⟩
                        case measure => simp [intOf]; omega
                      | false =>
                        rw [hbl] at hany2
                        replace hany2 := Lib.hid hany2
                        replace hpx := Lib.hid hpx
                        replace hpy := Lib.hid hpy
                        replace hbl := Lib.hid hbl
                        go_wp2_with fail
                        go_quiet (fail)
                        go_wp2_with fail
                        refine (hhx.out _ (below_drewN hw9 _)).mono ?_
                        rintro e w' ⟨rfl, rfl⟩
                        go_wp2_with fail
                        refine (hhy.out _ (below_drewN hw9 _)).mono ?_
                        rintro e w' ⟨rfl, rfl⟩
                        go_wp2
                        go_roundw
                        case rel => exact ⟨y + 1, J' + 1, (x : Int), (y : Int), by omega, by go_num, by go_num, rfl, rfl, by rw [hany2.out]; rfl, hJ2.out, by omega, hfs2.out, below_drewN hbq3 _⟩
                        case measure => simp [intOf]; omega
                · have gneg : decide (f' < 0) = false := decide_eq_false hneg
                  have hfs2 : Hid ((f' = -1 ∧ scanI b xs 0 xs = scanR b xs x (scanJ b X (y + 1) ((xs.take x).drop (y + 1)))) ∨ (0 ≤ f' ∧ ∃ p, scanI b xs 0 xs = some p ∧ f' = (p.1 : Int) ∧ g' = (p.2 : Int))) := Lib.hid (by
                    rcases hfs'.out with ⟨h1, h2⟩ | ⟨h1, h2⟩
                    · omega
                    · exact .inr ⟨h1, h2⟩)
                  clear hjm hjd hcj1 hsj1 hany
                  cases hpx : decide (x ∈ printAt b xs n) with
                  | true =>
                    have hhx := hhas.out x
                    rw [hpx] at hhx
                    replace hhx := Lib.hid hhx
                    have hpy : decide (y ∈ printAt b xs n) = false := decide_eq_false fun hq => hnb hq (of_decide_eq_true hpx)
                    have hhy := hhas.out y
                    rw [hpy] at hhy
                    replace hhy := Lib.hid hhy
                    rw [hpy] at hany2
                    cases hbl : (printAt b xs y).any (jamX b xs X) with
                    | true =>
                      rw [hbl] at hany2
                      replace hany2 := Lib.hid hany2
                      replace hpx := Lib.hid hpx
                      replace hpy := Lib.hid hpy
                      replace hbl := Lib.hid hbl
                      go_wp2_with fail
                      go_quiet (fail)
                      go_wp2_with fail
                      refine (hhx.out _ (below_drewN hw9 _)).mono ?_
                      rintro e w' ⟨rfl, rfl⟩
                      go_wp2_with fail
                      refine (hhy.out _ (below_drewN hw9 _)).mono ?_
                      rintro e w' ⟨rfl, rfl⟩
                      go_wp2
                      go_roundw
                      case rel => exact ⟨y + 1, J' + 1, f', g', by omega, by go_num, by go_num, rfl, rfl, by rw [hany2.out]; rfl, hJ2.out, by omega, hfs2.out, below_drewN hbq3 _⟩
                      case measure => simp [intOf]; omega
                    | false =>
                      rw [hbl] at hany2
                      replace hany2 := Lib.hid hany2
                      replace hpx := Lib.hid hpx
                      replace hpy := Lib.hid hpy
                      replace hbl := Lib.hid hbl
                      go_wp2_with fail
                      go_quiet (fail)
                      go_wp2_with fail
                      refine (hhx.out _ (below_drewN hw9 _)).mono ?_
                      rintro e w' ⟨rfl, rfl⟩
                      go_wp2_with fail
                      refine (hhy.out _ (below_drewN hw9 _)).mono ?_
                      rintro e w' ⟨rfl, rfl⟩
                      go_wp2_with fail
                      refine (hhy.out _ (below_drewN hw9 _)).mono ?_
                      rintro e w' ⟨rfl, rfl⟩
                      go_wp2
                      go_roundw
                      case rel => exact ⟨y + 1, J' + 1, f', g', by omega, by go_num, by go_num, rfl, rfl, by rw [hany2.out]; rfl, hJ2.out, by omega, hfs2.out, below_drewN hbq3 _⟩
                      case measure => simp [intOf]; omega
                  | false =>
                    have hhx := hhas.out x
                    rw [hpx] at hhx
                    replace hhx := Lib.hid hhx
                    cases hpy : decide (y ∈ printAt b xs n) with
                    | true =>
                      have hhy := hhas.out y
                      rw [hpy] at hhy
                      replace hhy := Lib.hid hhy
                      rw [hpy] at hany2
                      cases hbl : (printAt b xs y).any (jamX b xs X) with
                      | true =>
                        rw [hbl] at hany2
                        replace hany2 := Lib.hid hany2
                        replace hpx := Lib.hid hpx
                        replace hpy := Lib.hid hpy
                        replace hbl := Lib.hid hbl
                        go_wp2_with fail
                        go_quiet (fail)
                        go_wp2_with fail
                        refine (hhx.out _ (below_drewN hw9 _)).mono ?_
                        rintro e w' ⟨rfl, rfl⟩
                        go_wp2
                        go_roundw
                        case rel => exact ⟨y + 1, J' + 1, f', g', by omega, by go_num, by go_num, rfl, rfl, by rw [hany2.out]; rfl, hJ2.out, by omega, hfs2.out, below_drewN hbq3 _⟩
                        case measure => simp [intOf]; omega
                      | false =>
                        rw [hbl] at hany2
                        replace hany2 := Lib.hid hany2
                        replace hpx := Lib.hid hpx
                        replace hpy := Lib.hid hpy
                        replace hbl := Lib.hid hbl
                        go_wp2_with fail
                        go_quiet (fail)
                        go_wp2_with fail
                        refine (hhx.out _ (below_drewN hw9 _)).mono ?_
                        rintro e w' ⟨rfl, rfl⟩
                        go_wp2_with fail
                        refine (hhy.out _ (below_drewN hw9 _)).mono ?_
                        rintro e w' ⟨rfl, rfl⟩
                        go_wp2
                        go_roundw
                        case rel => exact ⟨y + 1, J' + 1, f', g', by omega, by go_num, by go_num, rfl, rfl, by rw [hany2.out]; rfl, hJ2.out, by omega, hfs2.out, below_drewN hbq3 _⟩
                        case measure => simp [intOf]; omega
                    | false =>
                      have hhy := hhas.out y
                      rw [hpy] at hhy
                      replace hhy := Lib.hid hhy
                      rw [hpy] at hany2
                      cases hbl : (printAt b xs y).any (jamX b xs X) with
                      | true =>
                        rw [hbl] at hany2
                        replace hany2 := Lib.hid hany2
                        replace hpx := Lib.hid hpx
                        replace hpy := Lib.hid hpy
                        replace hbl := Lib.hid hbl
                        go_wp2_with fail
                        go_quiet (fail)
                        go_wp2_with fail
                        refine (hhx.out _ (below_drewN hw9 _)).mono ?_
                        rintro e w' ⟨rfl, rfl⟩
                        go_wp2
                        go_roundw
                        case rel => exact ⟨y + 1, J' + 1, f', g', by omega, by go_num, by go_num, rfl, rfl, by rw [hany2.out]; rfl, hJ2.out, by omega, hfs2.out, below_drewN hbq3 _⟩
                        case measure => simp [intOf]; omega
                      | false =>
                        rw [hbl] at hany2
                        replace hany2 := Lib.hid hany2
                        replace hpx := Lib.hid hpx
                        replace hpy := Lib.hid hpy
                        replace hbl := Lib.hid hbl
                        go_wp2_with fail
                        go_quiet (fail)
                        go_wp2_with fail
                        refine (hhx.out _ (below_drewN hw9 _)).mono ?_
                        rintro e w' ⟨rfl, rfl⟩
                        go_wp2_with fail
                        refine (hhy.out _ (below_drewN hw9 _)).mono ?_
                        rintro e w' ⟨rfl, rfl⟩
                        go_wp2
                        go_roundw
                        case rel => exact ⟨y + 1, J' + 1, f', g', by omega, by go_num, by go_num, rfl, rfl, by rw [hany2.out]; rfl, hJ2.out, by omega, hfs2.out, below_drewN hbq3 _⟩
                        case measure => simp [intOf]; omega
            · obtain rfl : y = x := by omega
              have hnil : (xs.take y).drop y = [] := List.drop_of_length_le (by omega)
              have hpi := print_iff (b := b) hX.out hlt
              have hJ2 : Hid (J' + cntI b xs (y + 1) (xs.drop (y + 1)) = cn) := Lib.hid (by have := hJ'.out; rw [hnil] at this; simpa [cntJ] using this)
              have hfs2 : Hid ((f' = -1 ∧ scanI b xs 0 xs = scanI b xs (y + 1) (xs.drop (y + 1))) ∨ (0 ≤ f' ∧ ∃ p, scanI b xs 0 xs = some p ∧ f' = (p.1 : Int) ∧ g' = (p.2 : Int))) := Lib.hid (by
                rcases hfs'.out with ⟨h1, h2⟩ | h2
                · exact .inl ⟨h1, by rw [h2, hnil]; rfl⟩
                · exact .inr h2)
              have hbo2 := hbo.step hbq
              have hhx := hhas.out y _ hbo2
              clear hct0 hst0 hJ hfs hJ' hfs'
              cases hbl : (printAt b xs y).any (jamX b xs X) with
              | true =>
                have hpd : decide (y ∈ printAt b xs n) = false := decide_eq_false (fun h => by rw [hpi, hbl] at h; cases h)
                rw [hpd] at hhx
                replace hhx := Lib.hid hhx
                replace hbl := Lib.hid hbl
                clear hpd hpi
                go_wp2_with fail
                refine hhx.out.mono ?_
                rintro e w' ⟨rfl, rfl⟩
                go_wp2
                go_roundw
                case rel => exact ⟨y + 1, J', f', g', by omega, by go_num, rfl, rfl, rfl, hJ2.out, hf1', hfs2.out, hbo2⟩
                case measure => simp [intOf]; omega
              | false =>
                have hpd : decide (y ∈ printAt b xs n) = true := decide_eq_true (hpi.2 hbl)
                rw [hpd] at hhx
                replace hhx := Lib.hid hhx
                replace hbl := Lib.hid hbl
                clear hpd hpi
                go_wp2_with fail
                refine hhx.out.mono ?_
                rintro e w' ⟨rfl, rfl⟩
                go_wp2
                go_roundw
                case rel => exact ⟨y + 1, J', f', g', by omega, by go_num, rfl, rfl, rfl, hJ2.out, hf1', hfs2.out, hbo2⟩
                case measure => simp [intOf]; omega
        · obtain rfl : x = n := by omega
          have hJc : J = cn := by rw [cntI_end hlen] at hJ; omega
          subst hJc
          have hfe := hfin.out f g (by
            rcases hfs.out with ⟨h1, h2⟩ | ⟨_, h2⟩
            · exact .inl ⟨h1, by rw [h2, scanI_end hlen]⟩
            · exact .inr h2)
          have hbz := hd6.trans (hbo.mono hd6.size)
          rcases hfe with ⟨h1, h2⟩ | ⟨h1, h2, h3⟩
          · subst h1
            subst h2
            go_wp2
            go_ret
            exact ⟨rfl, hbz⟩
          · subst h2
            subst h3
            have gf : decide (fa < 0) = false := decide_eq_false (by omega)
            have gf2 : decide (0 ≤ fa) = true := decide_eq_true h1
            go_wp2
            go_ret
            exact ⟨rfl, hbz⟩
    · have gn : decide ((0 : Int) < (n : Int)) = false := decide_eq_false (by omega)
      go_wp2
      go_loopw [14, 15, 16, 17] (fun jv fv gv xv wr => ∃ (x J : Nat) (f g : Int), x ≤ n ∧ xv = .int .i64 x ∧ jv = .int .i64 (J : Int) ∧ fv = .int .i64 f ∧ gv = .int .i64 g ∧ J + cntI b xs x (xs.drop x) = cn ∧ -1 ≤ f ∧ ((f = -1 ∧ scanI b xs 0 xs = scanI b xs x (xs.drop x)) ∨ (0 ≤ f ∧ ∃ p, scanI b xs 0 xs = some p ∧ f = (p.1 : Int) ∧ g = (p.2 : Int))) ∧ Below w6.heap.size w6 wr) (fun _ _ _ xv _ => n - (intOf xv).toNat)
      case atStart => exact ⟨0, 0, -1, -1, by omega, rfl, rfl, rfl, rfl, by rw [Nat.zero_add]; exact hcn.out, by omega, .inl ⟨rfl, rfl⟩, hb7⟩
      case round =>
        rename World => wo
        obtain ⟨x, J, f, g, hx, rfl, rfl, rfl, rfl, hJ, hf1, hfs, hbo⟩ := hrel
        replace hfs := Lib.hid hfs
        by_cases hlt : x < n
        · exact absurd hlt (by omega)
        · obtain rfl : x = n := by omega
          have hJc : J = cn := by rw [cntI_end hlen] at hJ; omega
          subst hJc
          have hfe := hfin.out f g (by
            rcases hfs.out with ⟨h1, h2⟩ | ⟨_, h2⟩
            · exact .inl ⟨h1, by rw [h2, scanI_end hlen]⟩
            · exact .inr h2)
          have hbz := hd6.trans (hbo.mono hd6.size)
          rcases hfe with ⟨h1, h2⟩ | ⟨h1, h2, h3⟩
          · subst h1
            subst h2
            go_wp2
            go_ret
            exact ⟨rfl, hbz⟩
          · subst h2
            subst h3
            have gf : decide (fa < 0) = false := decide_eq_false (by omega)
            have gf2 : decide (0 ≤ fa) = true := decide_eq_true h1
            go_wp2
            go_ret
            exact ⟨rfl, hbz⟩
end Go.Proofs.Ytndodlfmjdgpcaa
