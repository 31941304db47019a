/- Copies: the first of the cheapest ways, by the program. -/
import Derived.Test.YtlnhjknpeafgoaaCq4
import Derived.Test.YtlnhjknpeafgoaaCp4
namespace Go.Proofs.Ytlnhjknpeafgoaa
open Go.RowKit Go.ChangeShapes Go.WideShapes Go.Deep
set_option linter.unusedVariables false
set_option linter.unusedSimpArgs false

abbrev Cops (N : Nat) (w : World) (A : Option Addr) (n : Nat) (ks : List Nat) : Prop := SRow 2 (copC N) w A n ks
theorem cop_at {N : Nat} {w : World} {A : Option Addr} {n k : Nat} {ks : List Nat} (h : Cops N w A n ks) (hk : k < n) :
    ∃ b off j, A = some ⟨b, off, none⟩ ∧ b < w.heap.size ∧ Hid (ks[k]? = some j) ∧ w.cell? ⟨b, off + k * 2, none⟩ = some (.int .i64 (j : Int)) ∧ w.cell? ⟨b, off + k * 2 + 1, none⟩ = some (.int .i64 ((N : Int) - (j : Int))) := by
  obtain ⟨b, off, x, e, hb, hx, hc⟩ := h.at_ hk
  exact ⟨b, off, x, e, hb, Lib.hid hx, hc 0 _ rfl, hc 1 _ rfl⟩
theorem tail13 {N : Nat} {w : World} {A : Option Addr} {n : Nat} {ps : List Nat} (h : Cops N w A n ps) (c : Nat) (hn : 1 ≤ n) (hc : n ≤ c) (hc1 : ¬ c = 1) : Cops N w (A.map (·.add 2)) (n - 1) (ps.drop 1) := by
  refine ⟨by simp [h.1], fun hp => ?_⟩
  obtain ⟨b, off, rfl, hb, hcell⟩ := h.2 (by omega)
  refine ⟨b, off + 2, rfl, hb, fun i x hx j u hu => ?_⟩
  rw [List.getElem?_drop] at hx
  have := hcell (1 + i) x hx j u hu
  rw [← this]
  congr 2
  omega
theorem set_block13' {w : World} {R i : Nat} {cs : Array Value} {t : TypeId} {v : Value} (h : w.heap[R]? = some (.cells cs t)) : (w.setCell ⟨R, i, none⟩ v).heap[R]? = some (.cells (cs.setIfInBounds i v) t) := set_block13 h
theorem set_other13 {w : World} {R Q i : Nat} {o : Obj} {v : Value} (h : w.heap[Q]? = some o) (hne : R ≠ Q) : (w.setCell ⟨R, i, none⟩ v).heap[Q]? = some o := by
  unfold World.setCell
  simp only [Array.getElem?_modify]
  rw [if_neg hne]
  exact h
theorem cell_else13 {w : World} {R Q i o : Nat} {v u : Value} (h : w.cell? ⟨Q, o, none⟩ = some u) (hne : R ≠ Q) : (w.setCell ⟨R, i, none⟩ v).cell? ⟨Q, o, none⟩ = some u := by
  rw [World.cell?_setCell_other _ _ _ _ (fun e => hne (by cases e; rfl))]
  exact h
theorem ret13_p {p : Nat × Int} {N k : Nat} {t : Int} (h : p = (k, t)) : Ending.returned (.tuple #[.agg #[.int .i64 (k : Int), .int .i64 ((N : Int) - (k : Int))], .int .i64 t]) = .returned (.tuple #[.agg #[.int .i64 (p.1 : Int), .int .i64 ((N : Int) - (p.1 : Int))], .int .i64 p.2]) := by rw [h]
set_option maxRecDepth 100000 in
set_option maxHeartbeats 3200000 in
theorem fl13i (c : CarbonD) (x : WaysD) (hok : caB c = true) (hox : waB x = true) (N : Nat) (hN : N ≤ 500) (A : Option Addr) (cp : Nat) (w : World) (hL : Cops N w A (N + 1) (List.range (N + 1))) (hnc : N + 1 ≤ cp) :
    Calls Try.prog 26 #[.slice A (N + 1) cp, .func (.func 28) #[.agg #[.int .i64 c.force, .int .i64 c.loss, .int .i64 c.least, .int .i64 x.typing, .int .i64 x.sheet, .int .i64 x.stencil, .int .i64 x.pull]] #[]] w fun e w' => e = .returned (.tuple #[.agg #[.int .i64 ((cheapV c x (N : Int) N).1 : Int), .int .i64 ((N : Int) - ((cheapV c x (N : Int) N).1 : Int))], .int .i64 (cheapV c x (N : Int) N).2]) ∧ Below w.heap.size w w' := by
  have hpr := Lib.hid (fun (k : Nat) (hk : k ≤ N) W => price13oi c x hok hox (k : Int) ((N : Int) - (k : Int)) (by omega) (by omega) (by omega) (by omega) (t := priceV c x (N : Int) k) rfl W)
  have hch0 := Lib.hid (show cheapV c x (N : Int) 0 = (0, priceV c x (N : Int) 0) from rfl)
  have hchn := Lib.hid (fun k => show cheapV c x (N : Int) (k + 1) = if priceV c x (N : Int) (k + 1) < (cheapV c x (N : Int) k).2 then (k + 1, priceV c x (N : Int) (k + 1)) else cheapV c x (N : Int) k from rfl)
  have hT := Lib.hid (fun hc1 => tail13 hL cp (by omega) hnc hc1)
  have hdr : (List.range (N + 1)).drop 1 = (List.range N).map Nat.succ := by rw [List.range_succ_eq_map]; rfl
  obtain ⟨b, off, j0, rfl, hb, hj0, c0, c1⟩ := cop_at hL (show 0 < N + 1 by omega)
  have hj00 : j0 = 0 := by
    have := hj0.out
    rw [List.getElem?_range (by omega)] at this
    exact (Option.some.inj this).symm
  subst hj00
  simp only [Nat.zero_mul, Nat.add_zero] at c0 c1
  rw [show ((0 : Nat) : Int) = 0 from rfl] at c0 c1
  rw [Int.sub_zero] at c1
  rw [hdr] at hT
  have hpr0 := Lib.hid (hpr.out 0 (by omega))
  rw [show ((0 : Nat) : Int) = 0 from rfl, Int.sub_zero] at hpr0
  have k1 : (1 : Int) ≤ ((N + 1 : Nat) : Int) := by omega
  have k2 : (1 : Int) ≤ (cp : Int) := by omega
  have k3 : (0 : Int) < ((N + 1 : Nat) : Int) := by omega
  have k5 : 1 ≤ cp := by omega
  have k6 : ((N + 1 : Nat) : Int) ≤ (cp : Int) := by omega
  clear hok hox hL hj0 hdr
  generalize cheapV c x (N : Int) = CH at *
  generalize priceV c x (N : Int) = PV at *
  obtain ⟨F, L, E⟩ := c
  obtain ⟨a, b2, s, p⟩ := x
  simp only at hpr hpr0
  go_enter Try.func26, Try.ntmps26
  go_wp2_with fail
  have hHeld0 : (fun w' => Below w.heap.size w w' ∧ w'.heap[w.heap.size]? = some (.cells #[.int .i64 0, .int .i64 0] 51) ∧ w'.cell? ⟨b, off, none⟩ = some (.int .i64 0) ∧ w'.cell? ⟨b, off + 1, none⟩ = some (.int .i64 (N : Int))) ((w.alloc (.cells #[.int .i64 0, .int .i64 0] 51)).drew) := ⟨(below_a1 _ _).drew, heap_alloc_new _ _, cell_step (cell_step c0 (below_a1 _ _)) ((Below.refl _ _).drew), cell_step (cell_step c1 (below_a1 _ _)) ((Below.refl _ _).drew)⟩
  simp only at hHeld0
  refine wp_region_held_drew (S := fun w' => Below w.heap.size w w' ∧ w'.heap[w.heap.size]? = some (.cells #[.int .i64 0, .int .i64 0] 51) ∧ w'.cell? ⟨b, off, none⟩ = some (.int .i64 0) ∧ w'.cell? ⟨b, off + 1, none⟩ = some (.int .i64 (N : Int))) (by kernel_rfl) ?_ (fun hHeld => ?_)
  · exact ⟨(below_a1 _ _).drew, heap_alloc_new _ _, cell_step (cell_step c0 (below_a1 _ _)) ((Below.refl _ _).drew), cell_step (cell_step c1 (below_a1 _ _)) ((Below.refl _ _).drew)⟩
  refine wpAnyH_take (i := 0) (v := ?vr0) rfl (by kernel_rfl) (by kernel_rfl) (by kernel_rfl) (fun _ _ _ h => h) (Or.inl ⟨rfl, ?yr0⟩) (by assumption) ?_
  case yr0 => (intro w hSw; (try dsimp only at hSw); go_simp; first | done | with_reducible rfl)
  simp only [List.getElem_toArray, List.getElem_cons_succ, List.getElem_cons_zero, Act.put, List.setIfInBounds_toArray, List.set_cons_zero, List.set_cons_succ]
  refine wpAnyH_take (i := 1) (v := ?vr1) rfl (by kernel_rfl) (by kernel_rfl) (by kernel_rfl) (fun _ _ _ h => h) (Or.inl ⟨rfl, ?yr1⟩) (by assumption) ?_
  case yr1 => (intro w hSw; (try dsimp only at hSw); go_simp; first | done | with_reducible rfl)
  simp only [List.getElem_toArray, List.getElem_cons_succ, List.getElem_cons_zero, Act.put, List.setIfInBounds_toArray, List.set_cons_zero, List.set_cons_succ]
  refine wpAnyH_take (i := 2) (v := ?vr2) rfl (by kernel_rfl) (by kernel_rfl) (by kernel_rfl) (fun _ _ _ h => h) (Or.inl ⟨rfl, ?yr2⟩) (by assumption) ?_
  case yr2 => (intro w hSw; (try dsimp only at hSw); go_simp; first | done | with_reducible rfl)
  simp only [List.getElem_toArray, List.getElem_cons_succ, List.getElem_cons_zero, Act.put, List.setIfInBounds_toArray, List.set_cons_zero, List.set_cons_succ]
  refine wpAnyH_take (i := 3) (v := ?vr3) rfl (by kernel_rfl) (by kernel_rfl) (by kernel_rfl) (fun _ _ _ h => h) (Or.inl ⟨rfl, ?yr3⟩) (by assumption) ?_
  case yr3 => (intro w hSw; (try dsimp only at hSw); go_simp; first | done | with_reducible rfl)
  simp only [List.getElem_toArray, List.getElem_cons_succ, List.getElem_cons_zero, Act.put, List.setIfInBounds_toArray, List.set_cons_zero, List.set_cons_succ]
  refine wpAnyH_take (i := 4) (v := ?vr4) rfl (by kernel_rfl) (by kernel_rfl) (by kernel_rfl) (fun _ _ _ h => h) (Or.inl ⟨rfl, ?yr4⟩) (by assumption) ?_
  case yr4 => (intro w hSw; (try dsimp only at hSw); go_simp; first | done | with_reducible rfl)
  simp only [List.getElem_toArray, List.getElem_cons_succ, List.getElem_cons_zero, Act.put, List.setIfInBounds_toArray, List.set_cons_zero, List.set_cons_succ]
  refine wpAnyH_take (i := 5) (v := ?vr5) rfl (by kernel_rfl) (by kernel_rfl) (by kernel_rfl) (fun _ _ _ h => h) (Or.inl ⟨rfl, ?yr5⟩) (by assumption) ?_
  case yr5 => (intro w hSw; (try dsimp only at hSw); go_simp; first | done | with_reducible rfl)
  simp only [List.getElem_toArray, List.getElem_cons_succ, List.getElem_cons_zero, Act.put, List.setIfInBounds_toArray, List.set_cons_zero, List.set_cons_succ]
  refine wpAnyH_take (i := 6) (v := ?vr6) rfl (by kernel_rfl) (by kernel_rfl) (by kernel_rfl) (fun _ _ _ h => h) (Or.inl ⟨rfl, ?yr6⟩) (by assumption) ?_
  case yr6 => (intro w hSw; (try dsimp only at hSw); go_simp; first | done | with_reducible rfl)
  simp only [List.getElem_toArray, List.getElem_cons_succ, List.getElem_cons_zero, Act.put, List.setIfInBounds_toArray, List.set_cons_zero, List.set_cons_succ]
  refine wpAnyH_ready (rs := [7, 8]) (by kernel_rfl) (by simp) ?_
  refine AllReadyH.cons rfl (fun K hK => ?_) (AllReadyH.cons rfl (fun K hK => ?_) AllReadyH.nil)
  · go_simp
    refine (hpr0.out _).mono ?_
    rintro e w5 ⟨rfl, hb5⟩
    go_wp2_with fail
    refine hK.out _ _ ?_ (fun hHeld => ?_)
    · exact ⟨hHeld.1.step hb5, (hb5.block _ (own_lt hHeld.2.1)).trans hHeld.2.1, cell_step hHeld.2.2.1 hb5, cell_step hHeld.2.2.2 hb5⟩
    clear hK K
    try simp only [List.getElem_toArray, List.getElem_cons_succ, List.getElem_cons_zero, Act.put, List.setIfInBounds_toArray, List.set_cons_zero, List.set_cons_succ]
    refine wpAnyH_ready (rs := [8]) (by kernel_rfl) (by simp) ?_
    refine AllReadyH.cons rfl (fun K hK => ?_) AllReadyH.nil
    go_simp
    refine hK.out _ _ ?_ (fun hHeld => ?_)
    · exact ⟨hHeld.1.alloc hHeld.1.size _, (heap_alloc_old _ _ (own_lt hHeld.2.1)).trans hHeld.2.1, cell_on hHeld.2.2.1 _, cell_on hHeld.2.2.2 _⟩
    clear hK K
    try simp only [List.getElem_toArray, List.getElem_cons_succ, List.getElem_cons_zero, Act.put, List.setIfInBounds_toArray, List.set_cons_zero, List.set_cons_succ]
    refine wpAnyH_ready (rs := [9]) (by kernel_rfl) (by simp) ?_
    refine AllReadyH.cons rfl (fun K hK => ?_) AllReadyH.nil
    go_simp
    have hFB : (w5.alloc (.cells #[.int .i64 0, .int .i64 (N : Int)] 51)).heap[w5.heap.size]? = some (.cells #[.int .i64 0, .int .i64 (N : Int)] 51) := heap_alloc_new _ _
    refine hK.out _ _ ?_ (fun hHeld => ?_)
    · exact ⟨((hHeld0.1.step hb5).alloc (hHeld0.1.step hb5).size _), (heap_alloc_old _ _ (by have := own_lt hHeld0.2.1; have := hb5.size; omega)).trans ((hb5.block _ (own_lt hHeld0.2.1)).trans hHeld0.2.1), cell_on (cell_step hHeld0.2.2.1 hb5) _, cell_on (cell_step hHeld0.2.2.2 hb5) _⟩
    clear hK K
    try simp only [List.getElem_toArray, List.getElem_cons_succ, List.getElem_cons_zero, Act.put, List.setIfInBounds_toArray, List.set_cons_zero, List.set_cons_succ]
    refine wpAnyH_take (i := 10) (v := ?vra10) rfl (by kernel_rfl) (by kernel_rfl) (by kernel_rfl) (fun _ _ _ h => h) (Or.inl ⟨rfl, ?yra10⟩) (by assumption) ?_
    case yra10 => (intro w hSw; (try dsimp only at hSw); go_simp; first | done | with_reducible rfl)
    simp only [List.getElem_toArray, List.getElem_cons_succ, List.getElem_cons_zero, Act.put, List.setIfInBounds_toArray, List.set_cons_zero, List.set_cons_succ]
    refine wpAnyH_done (by kernel_rfl) ?_ _
    have hne : w5.heap.size ≠ w.heap.size := by have := own_lt hHeld0.2.1; have := hb5.size; omega
    have hFBge0 : w.heap.size ≤ w5.heap.size := by have := own_lt hHeld0.2.1; have := hb5.size; omega
    generalize w5.alloc (.cells #[.int .i64 0, .int .i64 (N : Int)] 51) = wz at *
    generalize w5.heap.size = FB at *
    clear hb5 hHeld0
    obtain ⟨hbw0, hR0, _, _⟩ := hHeld
    have hFBge : w.heap.size ≤ FB := hFBge0
    have hFBs : wz.heap[FB]? = some (.cells #[.int .i64 ((0 : Nat) : Int), .int .i64 ((N : Int) - ((0 : Nat) : Int))] 51) := by rw [show ((N : Int) - ((0 : Nat) : Int)) = (N : Int) by omega]; exact hFB
    by_cases hc1 : cp = 1
    · have hN0 := Lib.hid (show N = 0 by omega)
      subst hc1
      go_wp2
      go_loopw [7, 22] (fun l i wr => ∃ k : Nat, k ≤ N ∧ i = .int .i64 (k : Int) ∧ l = .int .i64 (CH k).2 ∧ wr.heap[FB]? = some (.cells #[.int .i64 ((CH k).1 : Int), .int .i64 ((N : Int) - ((CH k).1 : Int))] 51) ∧ wr.heap[w.heap.size]? = some (.cells #[.int .i64 0, .int .i64 0] 51) ∧ Below w.heap.size w wr) (fun _ i _ => (N - intOf i).toNat)
      case atStart => exact ⟨0, by omega, rfl, by rw [hch0.out], by rw [hch0.out]; exact hFBs, hR0, hbw0⟩
      case round =>
        clear hbw0 hR0 hFBs hFB
        rename World => wr
        obtain ⟨k, hk, rfl, rfl, hF, hR, hbw⟩ := hrel
        have hwz := hbw.size
        by_cases hlt : k < N
        · exact absurd hN0.out (by omega)
        · obtain rfl : k = N := by omega
          have L0 := own_cell hR (o := 0) rfl
          have L1 := own_cell hR (o := 1) rfl
          have F0 := own_frozen hR 0
          have F1 := own_frozen hR 1
          have g0 := own_cell hF (o := 0) rfl
          have g1 := own_cell hF (o := 1) rfl
          have hlR := own_lt hR
          have hlF := own_lt hF
          obtain ⟨⟨bk, bp⟩, hP⟩ : ∃ P : Nat × Int, CH k = P := ⟨_, rfl⟩
          rw [hP] at hF g0 g1 ⊢
          simp only at hF g0 g1 ⊢
          replace hP := Lib.hid hP
          have hZ := set_block13 (i := 1) (v := .int .i64 ((k : Int) - (bk : Int))) (set_block13 (i := 0) (v := .int .i64 (bk : Int)) hR)
          simp only [List.setIfInBounds_toArray, List.set_cons_zero, List.set_cons_succ] at hZ
          have hbz : Below w.heap.size w ((wr.setCell ⟨w.heap.size, 0, none⟩ (.int .i64 (bk : Int))).setCell ⟨w.heap.size, 1, none⟩ (.int .i64 ((k : Int) - (bk : Int)))) := (hbw.setCell (Nat.le_refl _) _).setCell (Nat.le_refl _) _
          clear hR hF hbw
          go_wp2
          generalize (wr.setCell ⟨w.heap.size, 0, none⟩ (.int .i64 (bk : Int))).setCell ⟨w.heap.size, 1, none⟩ (.int .i64 ((k : Int) - (bk : Int))) = wy at *
          have hlz := own_lt hZ
          have z0 := own_cell hZ (o := 0) rfl
          have z1 := own_cell hZ (o := 1) rfl
          refine bodyPost_ret (v := .tuple #[.agg #[.int .i64 (bk : Int), .int .i64 ((k : Int) - (bk : Int))], .int .i64 bp]) (by simp [results, Try.results26, go_sem, z0, z1, hlz]) rfl ?_
          exact ⟨by rw [hP.out], hbz⟩
    · have hT1 := hT.out hc1
      simp only [Option.map_some] at hT1
      obtain ⟨A3, hA3⟩ : ∃ A3 : Option Addr, some ((⟨b, off, none⟩ : Addr).add 2) = A3 := ⟨_, rfl⟩
      rw [hA3, show N + 1 - 1 = N from rfl] at hT1
      have hT2 := Lib.hid hT1
      clear hT1 hT
      go_wp2
      have e3 : some (⟨b, off + 2, none⟩ : Addr) = A3 := hA3
      rw [e3]
      clear hA3 e3 c0 c1
      go_loopw [7, 22] (fun l i wr => ∃ k : Nat, k ≤ N ∧ i = .int .i64 (k : Int) ∧ l = .int .i64 (CH k).2 ∧ wr.heap[FB]? = some (.cells #[.int .i64 ((CH k).1 : Int), .int .i64 ((N : Int) - ((CH k).1 : Int))] 51) ∧ wr.heap[w.heap.size]? = some (.cells #[.int .i64 0, .int .i64 0] 51) ∧ Below w.heap.size w wr) (fun _ i _ => (N - intOf i).toNat)
      case atStart => exact ⟨0, by omega, rfl, by rw [hch0.out], by rw [hch0.out]; exact hFBs, hR0, hbw0⟩
      case round =>
        clear hbw0 hR0 hFBs hFB
        rename World => wr
        obtain ⟨k, hk, rfl, rfl, hF, hR, hbw⟩ := hrel
        have hwz := hbw.size
        by_cases hlt : k < N
        · obtain ⟨b', off', j, e, hb', hj, d0, d1⟩ := cop_at (hT2.out.below hbw) hlt
          subst e
          obtain rfl : j = k + 1 := by
            have h9 := hj.out
            rw [List.getElem?_map, List.getElem?_range hlt] at h9
            exact (Option.some.inj h9).symm
          have hcl1 := Lib.hid (hpr.out (k + 1) (by omega))
          have hnx := Lib.hid (hchn.out k)
          have i0 : (0 : Int) ≤ (k : Int) := by omega
          have i1 : (k : Int) < (N : Int) := by omega
          have hwk : IntKind.i64.wrap ((k : Int) + 1) = ((k + 1 : Nat) : Int) := by rw [IntWalk.i64_in _ (by omega)]; omega
          generalize CH k = P at *
          obtain ⟨bk, bp⟩ := P
          simp only at hF hnx ⊢
          generalize PV (k + 1) = Y at *
          by_cases hlp : Y < bp
          · have g4 : decide (Y < bp) = true := decide_eq_true hlp
            have hq : Hid (CH (k + 1) = (k + 1, Y)) := Lib.hid (by rw [hnx.out, if_pos hlp])
            clear hnx hj
            go_wp2_with fail
            refine (hcl1.out _).mono ?_
            rintro e w6 ⟨rfl, hb6⟩
            have hI6 : w6.heap[wr.heap.size]? = some (.cells #[.int .i64 ((k + 1 : Nat) : Int), .int .i64 ((N : Int) - ((k + 1 : Nat) : Int))] 51) := own_block hb6
            have hF6 := (hb6.block _ (by have := own_lt hF; simp; omega)).trans ((heap_alloc_old wr (.cells #[.int .i64 ((k + 1 : Nat) : Int), .int .i64 ((N : Int) - ((k + 1 : Nat) : Int))] 51) (own_lt hF)).trans hF)
            have hR6 := (hb6.block _ (by have := own_lt hR; simp; omega)).trans ((heap_alloc_old wr (.cells #[.int .i64 ((k + 1 : Nat) : Int), .int .i64 ((N : Int) - ((k + 1 : Nat) : Int))] 51) (own_lt hR)).trans hR)
            have hbw6 := (hbw.alloc hwz (.cells #[.int .i64 ((k + 1 : Nat) : Int), .int .i64 ((N : Int) - ((k + 1 : Nat) : Int))] 51)).step hb6
            clear hb6
            have c0' := own_cell hI6 (o := 0) rfl
            have c1' := own_cell hI6 (o := 1) rfl
            have L0 := own_cell hF6 (o := 0) rfl
            have L1 := own_cell hF6 (o := 1) rfl
            have F0 := own_frozen hF6 0
            have F1 := own_frozen hF6 1
            have hlF := own_lt hF6
            have hlI := own_lt hI6
            have hZ := set_block13 (i := 1) (v := .int .i64 ((N : Int) - ((k + 1 : Nat) : Int))) (set_block13 (i := 0) (v := .int .i64 ((k + 1 : Nat) : Int)) hF6)
            simp only [List.setIfInBounds_toArray, List.set_cons_zero, List.set_cons_succ] at hZ
            have hfin : Hid (((w6.setCell ⟨FB, 0, none⟩ (.int .i64 ((k + 1 : Nat) : Int))).setCell ⟨FB, 1, none⟩ (.int .i64 ((N : Int) - ((k + 1 : Nat) : Int)))).heap[w.heap.size]? = some (.cells #[.int .i64 0, .int .i64 0] 51) ∧ Below w.heap.size w ((w6.setCell ⟨FB, 0, none⟩ (.int .i64 ((k + 1 : Nat) : Int))).setCell ⟨FB, 1, none⟩ (.int .i64 ((N : Int) - ((k + 1 : Nat) : Int))))) := Lib.hid ⟨set_other13 (set_other13 hR6 hne) hne, (hbw6.setCell hFBge _).setCell hFBge _⟩
            have hZ' := Lib.hid hZ
            clear hI6 hF6 hR6 hbw6 hZ hF hR hbw
            go_wp2
            go_roundw
            case rel => exact ⟨k + 1, by omega, by go_num, by rw [hq.out], by rw [hq.out]; exact hZ'.out, hfin.out⟩
            case measure => simp [intOf]; omega
          · have g4 : decide (Y < bp) = false := decide_eq_false hlp
            have hq : Hid (CH (k + 1) = (bk, bp)) := Lib.hid (by rw [hnx.out, if_neg hlp])
            clear hnx hj
            go_wp2_with fail
            refine (hcl1.out _).mono ?_
            rintro e w6 ⟨rfl, hb6⟩
            have hI6 : w6.heap[wr.heap.size]? = some (.cells #[.int .i64 ((k + 1 : Nat) : Int), .int .i64 ((N : Int) - ((k + 1 : Nat) : Int))] 51) := own_block hb6
            have hF6 := (hb6.block _ (by have := own_lt hF; simp; omega)).trans ((heap_alloc_old wr (.cells #[.int .i64 ((k + 1 : Nat) : Int), .int .i64 ((N : Int) - ((k + 1 : Nat) : Int))] 51) (own_lt hF)).trans hF)
            have hR6 := (hb6.block _ (by have := own_lt hR; simp; omega)).trans ((heap_alloc_old wr (.cells #[.int .i64 ((k + 1 : Nat) : Int), .int .i64 ((N : Int) - ((k + 1 : Nat) : Int))] 51) (own_lt hR)).trans hR)
            have hbw6 := (hbw.alloc hwz (.cells #[.int .i64 ((k + 1 : Nat) : Int), .int .i64 ((N : Int) - ((k + 1 : Nat) : Int))] 51)).step hb6
            clear hb6
            have hfin := Lib.hid (And.intro hF6 (And.intro hR6 hbw6))
            clear hI6 hF6 hR6 hbw6 hF hR hbw
            go_wp2
            go_roundw
            case rel => exact ⟨k + 1, by omega, by go_num, by rw [hq.out], by rw [hq.out]; exact hfin.out.1, hfin.out.2⟩
            case measure => simp [intOf]; omega
        · obtain rfl : k = N := by omega
          have L0 := own_cell hR (o := 0) rfl
          have L1 := own_cell hR (o := 1) rfl
          have F0 := own_frozen hR 0
          have F1 := own_frozen hR 1
          have g0 := own_cell hF (o := 0) rfl
          have g1 := own_cell hF (o := 1) rfl
          have hlR := own_lt hR
          have hlF := own_lt hF
          obtain ⟨⟨bk, bp⟩, hP⟩ : ∃ P : Nat × Int, CH k = P := ⟨_, rfl⟩
          rw [hP] at hF g0 g1 ⊢
          simp only at hF g0 g1 ⊢
          replace hP := Lib.hid hP
          have hZ := set_block13 (i := 1) (v := .int .i64 ((k : Int) - (bk : Int))) (set_block13 (i := 0) (v := .int .i64 (bk : Int)) hR)
          simp only [List.setIfInBounds_toArray, List.set_cons_zero, List.set_cons_succ] at hZ
          have hbz : Below w.heap.size w ((wr.setCell ⟨w.heap.size, 0, none⟩ (.int .i64 (bk : Int))).setCell ⟨w.heap.size, 1, none⟩ (.int .i64 ((k : Int) - (bk : Int)))) := (hbw.setCell (Nat.le_refl _) _).setCell (Nat.le_refl _) _
          clear hR hF hbw
          go_wp2
          generalize (wr.setCell ⟨w.heap.size, 0, none⟩ (.int .i64 (bk : Int))).setCell ⟨w.heap.size, 1, none⟩ (.int .i64 ((k : Int) - (bk : Int))) = wy at *
          have hlz := own_lt hZ
          have z0 := own_cell hZ (o := 0) rfl
          have z1 := own_cell hZ (o := 1) rfl
          refine bodyPost_ret (v := .tuple #[.agg #[.int .i64 (bk : Int), .int .i64 ((k : Int) - (bk : Int))], .int .i64 bp]) (by simp [results, Try.results26, go_sem, z0, z1, hlz]) rfl ?_
          exact ⟨by rw [hP.out], hbz⟩
  · go_simp
    refine hK.out _ _ ?_ (fun hHeld => ?_)
    · exact ⟨hHeld.1.alloc hHeld.1.size _, (heap_alloc_old _ _ (own_lt hHeld.2.1)).trans hHeld.2.1, cell_on hHeld.2.2.1 _, cell_on hHeld.2.2.2 _⟩
    clear hK K
    try simp only [List.getElem_toArray, List.getElem_cons_succ, List.getElem_cons_zero, Act.put, List.setIfInBounds_toArray, List.set_cons_zero, List.set_cons_succ]
    refine wpAnyH_ready (rs := [7]) (by kernel_rfl) (by simp) ?_
    refine AllReadyH.cons rfl (fun K hK => ?_) AllReadyH.nil
    go_simp
    refine (hpr0.out _).mono ?_
    rintro e w5 ⟨rfl, hb5⟩
    go_wp2_with fail
    refine hK.out _ _ ?_ (fun hHeld => ?_)
    · exact ⟨hHeld.1.step hb5, (hb5.block _ (own_lt hHeld.2.1)).trans hHeld.2.1, cell_step hHeld.2.2.1 hb5, cell_step hHeld.2.2.2 hb5⟩
    clear hK K
    try simp only [List.getElem_toArray, List.getElem_cons_succ, List.getElem_cons_zero, Act.put, List.setIfInBounds_toArray, List.set_cons_zero, List.set_cons_succ]
    have hF0 : w5.heap[w.heap.size + 1]? = some (.cells #[.int .i64 0, .int .i64 0] 51) := (hb5.block _ (by simp)).trans (blocks2c w (.cells #[.int .i64 0, .int .i64 0] 51) (.cells #[.int .i64 0, .int .i64 0] 51)).2
    have L0 := own_cell hF0 (o := 0) rfl
    have L1 := own_cell hF0 (o := 1) rfl
    have F0 := own_frozen hF0 0
    have F1 := own_frozen hF0 1
    have hltF := own_lt hF0
    refine wpAnyH_ready (rs := [9]) (by kernel_rfl) (by simp) ?_
    refine AllReadyH.cons rfl (fun K hK => ?_) AllReadyH.nil
    go_simp
    have hFB : ((w5.setCell ⟨w.heap.size + 1, 0, none⟩ (.int .i64 0)).setCell ⟨w.heap.size + 1, 1, none⟩ (.int .i64 (N : Int))).heap[w.heap.size + 1]? = some (.cells #[.int .i64 0, .int .i64 (N : Int)] 51) := by have h9 := set_block13 (i := 1) (v := .int .i64 (N : Int)) (set_block13 (i := 0) (v := .int .i64 0) hF0); simpa only [List.setIfInBounds_toArray, List.set_cons_zero, List.set_cons_succ] using h9
    have hS9 : (fun w' => Below w.heap.size w w' ∧ w'.heap[w.heap.size]? = some (.cells #[.int .i64 0, .int .i64 0] 51) ∧ w'.cell? ⟨b, off, none⟩ = some (.int .i64 0) ∧ w'.cell? ⟨b, off + 1, none⟩ = some (.int .i64 (N : Int))) ((w5.setCell ⟨w.heap.size + 1, 0, none⟩ (.int .i64 0)).setCell ⟨w.heap.size + 1, 1, none⟩ (.int .i64 (N : Int))) := ⟨(hHeld.1.setCell (Nat.le_add_right _ _) _).setCell (Nat.le_add_right _ _) _, set_other13 (set_other13 hHeld.2.1 (by omega)) (by omega), cell_else13 (cell_else13 hHeld.2.2.1 (by omega)) (by omega), cell_else13 (cell_else13 hHeld.2.2.2 (by omega)) (by omega)⟩
    refine hK.out _ _ ?_ (fun hHeld => ?_)
    · exact hS9
    clear hK K
    try simp only [List.getElem_toArray, List.getElem_cons_succ, List.getElem_cons_zero, Act.put, List.setIfInBounds_toArray, List.set_cons_zero, List.set_cons_succ]
    refine wpAnyH_take (i := 10) (v := ?vrb10) rfl (by kernel_rfl) (by kernel_rfl) (by kernel_rfl) (fun _ _ _ h => h) (Or.inl ⟨rfl, ?yrb10⟩) (by assumption) ?_
    case yrb10 => (intro w hSw; (try dsimp only at hSw); go_simp; first | done | with_reducible rfl)
    simp only [List.getElem_toArray, List.getElem_cons_succ, List.getElem_cons_zero, Act.put, List.setIfInBounds_toArray, List.set_cons_zero, List.set_cons_succ]
    refine wpAnyH_done (by kernel_rfl) ?_ _
    have hne : w.heap.size + 1 ≠ w.heap.size := by omega
    clear L0 L1 F0 F1 hltF hF0 hS9 hb5 hHeld0
    generalize (w5.setCell ⟨w.heap.size + 1, 0, none⟩ (.int .i64 0)).setCell ⟨w.heap.size + 1, 1, none⟩ (.int .i64 (N : Int)) = wz at *
    generalize hFBe : w.heap.size + 1 = FB at *
    obtain ⟨hbw0, hR0, _, _⟩ := hHeld
    have hFBge : w.heap.size ≤ FB := by omega
    have hFBs : wz.heap[FB]? = some (.cells #[.int .i64 ((0 : Nat) : Int), .int .i64 ((N : Int) - ((0 : Nat) : Int))] 51) := by rw [show ((N : Int) - ((0 : Nat) : Int)) = (N : Int) by omega]; exact hFB
    by_cases hc1 : cp = 1
    · have hN0 := Lib.hid (show N = 0 by omega)
      subst hc1
      go_wp2
      go_loopw [7, 22] (fun l i wr => ∃ k : Nat, k ≤ N ∧ i = .int .i64 (k : Int) ∧ l = .int .i64 (CH k).2 ∧ wr.heap[FB]? = some (.cells #[.int .i64 ((CH k).1 : Int), .int .i64 ((N : Int) - ((CH k).1 : Int))] 51) ∧ wr.heap[w.heap.size]? = some (.cells #[.int .i64 0, .int .i64 0] 51) ∧ Below w.heap.size w wr) (fun _ i _ => (N - intOf i).toNat)
      case atStart => exact ⟨0, by omega, rfl, by rw [hch0.out], by rw [hch0.out]; exact hFBs, hR0, hbw0⟩
      case round =>
        clear hbw0 hR0 hFBs hFB
        rename World => wr
        obtain ⟨k, hk, rfl, rfl, hF, hR, hbw⟩ := hrel
        have hwz := hbw.size
        by_cases hlt : k < N
        · exact absurd hN0.out (by omega)
        · obtain rfl : k = N := by omega
          have L0 := own_cell hR (o := 0) rfl
          have L1 := own_cell hR (o := 1) rfl
          have F0 := own_frozen hR 0
          have F1 := own_frozen hR 1
          have g0 := own_cell hF (o := 0) rfl
          have g1 := own_cell hF (o := 1) rfl
          have hlR := own_lt hR
          have hlF := own_lt hF
          obtain ⟨⟨bk, bp⟩, hP⟩ : ∃ P : Nat × Int, CH k = P := ⟨_, rfl⟩
          rw [hP] at hF g0 g1 ⊢
          simp only at hF g0 g1 ⊢
          replace hP := Lib.hid hP
          have hZ := set_block13 (i := 1) (v := .int .i64 ((k : Int) - (bk : Int))) (set_block13 (i := 0) (v := .int .i64 (bk : Int)) hR)
          simp only [List.setIfInBounds_toArray, List.set_cons_zero, List.set_cons_succ] at hZ
          have hbz : Below w.heap.size w ((wr.setCell ⟨w.heap.size, 0, none⟩ (.int .i64 (bk : Int))).setCell ⟨w.heap.size, 1, none⟩ (.int .i64 ((k : Int) - (bk : Int)))) := (hbw.setCell (Nat.le_refl _) _).setCell (Nat.le_refl _) _
          clear hR hF hbw
          go_wp2
          generalize (wr.setCell ⟨w.heap.size, 0, none⟩ (.int .i64 (bk : Int))).setCell ⟨w.heap.size, 1, none⟩ (.int .i64 ((k : Int) - (bk : Int))) = wy at *
          have hlz := own_lt hZ
          have z0 := own_cell hZ (o := 0) rfl
          have z1 := own_cell hZ (o := 1) rfl
          refine bodyPost_ret (v := .tuple #[.agg #[.int .i64 (bk : Int), .int .i64 ((k : Int) - (bk : Int))], .int .i64 bp]) (by simp [results, Try.results26, go_sem, z0, z1, hlz]) rfl ?_
          exact ⟨by rw [hP.out], hbz⟩
    · have hT1 := hT.out hc1
      simp only [Option.map_some] at hT1
      obtain ⟨A3, hA3⟩ : ∃ A3 : Option Addr, some ((⟨b, off, none⟩ : Addr).add 2) = A3 := ⟨_, rfl⟩
      rw [hA3, show N + 1 - 1 = N from rfl] at hT1
      have hT2 := Lib.hid hT1
      clear hT1 hT
      go_wp2
      have e3 : some (⟨b, off + 2, none⟩ : Addr) = A3 := hA3
      rw [e3]
      clear hA3 e3 c0 c1
      go_loopw [7, 22] (fun l i wr => ∃ k : Nat, k ≤ N ∧ i = .int .i64 (k : Int) ∧ l = .int .i64 (CH k).2 ∧ wr.heap[FB]? = some (.cells #[.int .i64 ((CH k).1 : Int), .int .i64 ((N : Int) - ((CH k).1 : Int))] 51) ∧ wr.heap[w.heap.size]? = some (.cells #[.int .i64 0, .int .i64 0] 51) ∧ Below w.heap.size w wr) (fun _ i _ => (N - intOf i).toNat)
      case atStart => exact ⟨0, by omega, rfl, by rw [hch0.out], by rw [hch0.out]; exact hFBs, hR0, hbw0⟩
      case round =>
        clear hbw0 hR0 hFBs hFB
        rename World => wr
        obtain ⟨k, hk, rfl, rfl, hF, hR, hbw⟩ := hrel
        have hwz := hbw.size
        by_cases hlt : k < N
        · obtain ⟨b', off', j, e, hb', hj, d0, d1⟩ := cop_at (hT2.out.below hbw) hlt
          subst e
          obtain rfl : j = k + 1 := by
            have h9 := hj.out
            rw [List.getElem?_map, List.getElem?_range hlt] at h9
            exact (Option.some.inj h9).symm
          have hcl1 := Lib.hid (hpr.out (k + 1) (by omega))
          have hnx := Lib.hid (hchn.out k)
          have i0 : (0 : Int) ≤ (k : Int) := by omega
          have i1 : (k : Int) < (N : Int) := by omega
          have hwk : IntKind.i64.wrap ((k : Int) + 1) = ((k + 1 : Nat) : Int) := by rw [IntWalk.i64_in _ (by omega)]; omega
          generalize CH k = P at *
          obtain ⟨bk, bp⟩ := P
          simp only at hF hnx ⊢
          generalize PV (k + 1) = Y at *
          by_cases hlp : Y < bp
          · have g4 : decide (Y < bp) = true := decide_eq_true hlp
            have hq : Hid (CH (k + 1) = (k + 1, Y)) := Lib.hid (by rw [hnx.out, if_pos hlp])
            clear hnx hj
            go_wp2_with fail
            refine (hcl1.out _).mono ?_
            rintro e w6 ⟨rfl, hb6⟩
            have hI6 : w6.heap[wr.heap.size]? = some (.cells #[.int .i64 ((k + 1 : Nat) : Int), .int .i64 ((N : Int) - ((k + 1 : Nat) : Int))] 51) := own_block hb6
            have hF6 := (hb6.block _ (by have := own_lt hF; simp; omega)).trans ((heap_alloc_old wr (.cells #[.int .i64 ((k + 1 : Nat) : Int), .int .i64 ((N : Int) - ((k + 1 : Nat) : Int))] 51) (own_lt hF)).trans hF)
            have hR6 := (hb6.block _ (by have := own_lt hR; simp; omega)).trans ((heap_alloc_old wr (.cells #[.int .i64 ((k + 1 : Nat) : Int), .int .i64 ((N : Int) - ((k + 1 : Nat) : Int))] 51) (own_lt hR)).trans hR)
            have hbw6 := (hbw.alloc hwz (.cells #[.int .i64 ((k + 1 : Nat) : Int), .int .i64 ((N : Int) - ((k + 1 : Nat) : Int))] 51)).step hb6
            clear hb6
            have c0' := own_cell hI6 (o := 0) rfl
            have c1' := own_cell hI6 (o := 1) rfl
            have L0 := own_cell hF6 (o := 0) rfl
            have L1 := own_cell hF6 (o := 1) rfl
            have F0 := own_frozen hF6 0
            have F1 := own_frozen hF6 1
            have hlF := own_lt hF6
            have hlI := own_lt hI6
            have hZ := set_block13 (i := 1) (v := .int .i64 ((N : Int) - ((k + 1 : Nat) : Int))) (set_block13 (i := 0) (v := .int .i64 ((k + 1 : Nat) : Int)) hF6)
            simp only [List.setIfInBounds_toArray, List.set_cons_zero, List.set_cons_succ] at hZ
            have hfin : Hid (((w6.setCell ⟨FB, 0, none⟩ (.int .i64 ((k + 1 : Nat) : Int))).setCell ⟨FB, 1, none⟩ (.int .i64 ((N : Int) - ((k + 1 : Nat) : Int)))).heap[w.heap.size]? = some (.cells #[.int .i64 0, .int .i64 0] 51) ∧ Below w.heap.size w ((w6.setCell ⟨FB, 0, none⟩ (.int .i64 ((k + 1 : Nat) : Int))).setCell ⟨FB, 1, none⟩ (.int .i64 ((N : Int) - ((k + 1 : Nat) : Int))))) := Lib.hid ⟨set_other13 (set_other13 hR6 hne) hne, (hbw6.setCell hFBge _).setCell hFBge _⟩
            have hZ' := Lib.hid hZ
            clear hI6 hF6 hR6 hbw6 hZ hF hR hbw
            go_wp2
            go_roundw
            case rel => exact ⟨k + 1, by omega, by go_num, by rw [hq.out], by rw [hq.out]; exact hZ'.out, hfin.out⟩
            case measure => simp [intOf]; omega
          · have g4 : decide (Y < bp) = false := decide_eq_false hlp
            have hq : Hid (CH (k + 1) = (bk, bp)) := Lib.hid (by rw [hnx.out, if_neg hlp])
            clear hnx hj
            go_wp2_with fail
            refine (hcl1.out _).mono ?_
            rintro e w6 ⟨rfl, hb6⟩
            have hI6 : w6.heap[wr.heap.size]? = some (.cells #[.int .i64 ((k + 1 : Nat) : Int), .int .i64 ((N : Int) - ((k + 1 : Nat) : Int))] 51) := own_block hb6
            have hF6 := (hb6.block _ (by have := own_lt hF; simp; omega)).trans ((heap_alloc_old wr (.cells #[.int .i64 ((k + 1 : Nat) : Int), .int .i64 ((N : Int) - ((k + 1 : Nat) : Int))] 51) (own_lt hF)).trans hF)
            have hR6 := (hb6.block _ (by have := own_lt hR; simp; omega)).trans ((heap_alloc_old wr (.cells #[.int .i64 ((k + 1 : Nat) : Int), .int .i64 ((N : Int) - ((k + 1 : Nat) : Int))] 51) (own_lt hR)).trans hR)
            have hbw6 := (hbw.alloc hwz (.cells #[.int .i64 ((k + 1 : Nat) : Int), .int .i64 ((N : Int) - ((k + 1 : Nat) : Int))] 51)).step hb6
            clear hb6
            have hfin := Lib.hid (And.intro hF6 (And.intro hR6 hbw6))
            clear hI6 hF6 hR6 hbw6 hF hR hbw
            go_wp2
            go_roundw
            case rel => exact ⟨k + 1, by omega, by go_num, by rw [hq.out], by rw [hq.out]; exact hfin.out.1, hfin.out.2⟩
            case measure => simp [intOf]; omega
        · obtain rfl : k = N := by omega
          have L0 := own_cell hR (o := 0) rfl
          have L1 := own_cell hR (o := 1) rfl
          have F0 := own_frozen hR 0
          have F1 := own_frozen hR 1
          have g0 := own_cell hF (o := 0) rfl
          have g1 := own_cell hF (o := 1) rfl
          have hlR := own_lt hR
          have hlF := own_lt hF
          obtain ⟨⟨bk, bp⟩, hP⟩ : ∃ P : Nat × Int, CH k = P := ⟨_, rfl⟩
          rw [hP] at hF g0 g1 ⊢
          simp only at hF g0 g1 ⊢
          replace hP := Lib.hid hP
          have hZ := set_block13 (i := 1) (v := .int .i64 ((k : Int) - (bk : Int))) (set_block13 (i := 0) (v := .int .i64 (bk : Int)) hR)
          simp only [List.setIfInBounds_toArray, List.set_cons_zero, List.set_cons_succ] at hZ
          have hbz : Below w.heap.size w ((wr.setCell ⟨w.heap.size, 0, none⟩ (.int .i64 (bk : Int))).setCell ⟨w.heap.size, 1, none⟩ (.int .i64 ((k : Int) - (bk : Int)))) := (hbw.setCell (Nat.le_refl _) _).setCell (Nat.le_refl _) _
          clear hR hF hbw
          go_wp2
          generalize (wr.setCell ⟨w.heap.size, 0, none⟩ (.int .i64 (bk : Int))).setCell ⟨w.heap.size, 1, none⟩ (.int .i64 ((k : Int) - (bk : Int))) = wy at *
          have hlz := own_lt hZ
          have z0 := own_cell hZ (o := 0) rfl
          have z1 := own_cell hZ (o := 1) rfl
          refine bodyPost_ret (v := .tuple #[.agg #[.int .i64 (bk : Int), .int .i64 ((k : Int) - (bk : Int))], .int .i64 bp]) (by simp [results, Try.results26, go_sem, z0, z1, hlz]) rfl ?_
          exact ⟨by rw [hP.out], hbz⟩
end Go.Proofs.Ytlnhjknpeafgoaa
