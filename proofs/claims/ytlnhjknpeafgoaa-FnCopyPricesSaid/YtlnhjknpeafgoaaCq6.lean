/- Copies: CheapestCopies of the program. -/
import Derived.Test.YtlnhjknpeafgoaaCq5
namespace Go.Proofs.Ytlnhjknpeafgoaa
open Go.RowKit Go.ChangeShapes Go.WideShapes Go.Deep
set_option linter.unusedVariables false
set_option linter.unusedSimpArgs false

set_option maxRecDepth 100000 in
set_option maxHeartbeats 3200000 in
theorem cc13_impl (c : CarbonD) (x : WaysD) (n : Int) (w : World) (hg : c.good) (hgx : x.good) (hwf : (Lit.int .i64 n).wf = true) :
    Calls Try.prog 13 #[.agg #[.int .i64 c.force, .int .i64 c.loss, .int .i64 c.least], .agg #[.int .i64 x.typing, .int .i64 x.sheet, .int .i64 x.stencil, .int .i64 x.pull], .int .i64 n] w fun e w' => e = .returned (.tuple #[.int .i64 (ccR c x n).1, .int .i64 (ccR c x n).2.1, .int .i64 (ccR c x n).2.2.1, .int .i64 (ccR c x n).2.2.2]) ∧ Below w.heap.size w w' := by
  clear hg hgx hwf
  generalize hr : ccR c x n = r
  replace hr := Lib.hid hr.symm
  cases h1 : (caB c && waB x) with
  | false =>
    have hb : Hid (r = (0, 0, 0, 1)) := Lib.hid (by rw [hr.out, ccR, cpC, h1]; rfl)
    have hc := Lib.hid (fun W => open13i c x h1 W)
    clear h1 hr
    obtain ⟨F, L, E⟩ := c
    obtain ⟨a, b, s, p⟩ := x
    simp only [offV, offC, if_neg (show ¬ (false = true) from Bool.noConfusion)] at hc
    go_enter Try.func13, Try.ntmps13
    go_wp2_with fail
    refine (hc.out _).mono ?_
    rintro e w1 ⟨rfl, hb1⟩
    have hbw := (below_a2 _ _ _).step hb1
    clear hb1
    go_wp2
    refine bodyPost_ret (v := .tuple #[.int .i64 0, .int .i64 0, .int .i64 0, .int .i64 1]) (by simp [results, Try.results13, go_sem]) rfl ?_
    exact ⟨ret13_4 hb.out, hbw.alloc hbw.size _⟩
  | true =>
    have hc := Lib.hid (fun W => open13i c x h1 W)
    cases h2 : inR n 0 500 with
    | false =>
      have hb : Hid (r = (0, 0, 0, 2)) := Lib.hid (by rw [hr.out, ccR, cpC, h1, h2]; rfl)
      have hc2 := Lib.hid (fun W => many13i h2 W)
      clear h1 h2 hr
      obtain ⟨F, L, E⟩ := c
      obtain ⟨a, b, s, p⟩ := x
      simp only [offV, offC, if_true] at hc
      go_enter Try.func13, Try.ntmps13
      go_wp2_with fail
      refine (hc.out _).mono ?_
      rintro e w1 ⟨rfl, hb1⟩
      have hbw := (below_a2 _ _ _).step hb1
      clear hb1
      go_wp2_with fail
      refine (hc2.out _).mono ?_
      rintro e w2 ⟨rfl, rfl⟩
      go_wp2
      refine bodyPost_ret (v := .tuple #[.int .i64 0, .int .i64 0, .int .i64 0, .int .i64 2]) (by simp [results, Try.results13, go_sem]) rfl ?_
      exact ⟨ret13_4 hb.out, hbw.alloc hbw.size _⟩
    | true =>
      have h12 := h1
      simp only [Bool.and_eq_true] at h12
      obtain ⟨n0, n1⟩ := inR_iff.1 h2
      have hc2 := Lib.hid (fun W => many13i h2 W)
      obtain ⟨N, rfl⟩ : ∃ N : Nat, n = (N : Int) := ⟨n.toNat, by omega⟩
      have hN : N ≤ 500 := by omega
      have hb0 : Hid (r = (((cheapV c x (N : Int) N).1 : Int), (N : Int) - ((cheapV c x (N : Int) N).1 : Int), (cheapV c x (N : Int) N).2, 0)) := Lib.hid (by rw [hr.out, ccR, cpC, h1, h2, if_pos rfl]; rfl)
      have hcop := Lib.hid (fun W => cops13 N hN W)
      have hfl := Lib.hid (fun A cp W h5 h6 => fl13i c x h12.1 h12.2 N hN A cp W h5 h6)
      obtain ⟨bk, hbk⟩ : ∃ bk, (cheapV c x (N : Int) N).1 = bk := ⟨_, rfl⟩
      obtain ⟨bp, hbp⟩ : ∃ bp, (cheapV c x (N : Int) N).2 = bp := ⟨_, rfl⟩
      rw [hbk, hbp] at hb0 hfl
      have hb : Hid (r = ((bk : Int), (N : Int) - (bk : Int), bp, 0)) := hb0
      clear h1 h2 h12 hr hbk hbp hb0
      obtain ⟨F, L, E⟩ := c
      obtain ⟨a, b, s, p⟩ := x
      simp only [offV, offC, if_true] at hc
      simp only at hfl
      have hmf : ∀ (fn : Fn) (first cap : Array Value) (w : World), (Instr.makeFunc fn first cap).run Try.prog w = .ok (.func fn first cap) w := fun _ _ _ _ => rfl
      go_enter Try.func13, Try.ntmps13
      go_wp2_with fail
      refine (hc.out _).mono ?_
      rintro e w1 ⟨rfl, hb1⟩
      have hbw1 := (below_a2 _ _ _).step hb1
      have hwz1 := hbw1.size
      clear hb1
      go_wp2_with fail
      refine (hc2.out _).mono ?_
      rintro e w2 ⟨rfl, rfl⟩
      go_wp2_with fail
      refine wp_region_held_drew (S := fun w' => Below w.heap.size w w' ∧ w'.cell? ⟨w1.heap.size, 0, none⟩ = some (.int .i64 F) ∧ w'.cell? ⟨w1.heap.size, 1, none⟩ = some (.int .i64 L) ∧ w'.cell? ⟨w1.heap.size, 2, none⟩ = some (.int .i64 E) ∧ w'.cell? ⟨w1.heap.size, 3, none⟩ = some (.int .i64 a) ∧ w'.cell? ⟨w1.heap.size, 4, none⟩ = some (.int .i64 b) ∧ w'.cell? ⟨w1.heap.size, 5, none⟩ = some (.int .i64 s) ∧ w'.cell? ⟨w1.heap.size, 6, none⟩ = some (.int .i64 p)) (by kernel_rfl) ?_ (fun hHeld => ?_)
      · exact ⟨(hbw1.alloc hwz1 _).drew, cell_new rfl rfl, cell_new rfl rfl, cell_new rfl rfl, cell_new rfl rfl, cell_new rfl rfl, cell_new rfl rfl, cell_new rfl rfl⟩
      refine wpAnyH_take (i := 0) (v := ?vs0) rfl (by kernel_rfl) (by kernel_rfl) (by kernel_rfl) (fun _ _ _ h => h) (Or.inl ⟨rfl, ?ys0⟩) (by assumption) ?_
      case ys0 => (intro w hSw; (try dsimp only at hSw); go_simp; first | done | with_reducible rfl)
      simp only [List.getElem_toArray, List.getElem_cons_succ, List.getElem_cons_zero, Act.put, List.setIfInBounds_toArray, List.set_cons_zero, List.set_cons_succ]
      refine wpAnyH_take (i := 2) (v := ?vs2) rfl (by kernel_rfl) (by kernel_rfl) (by kernel_rfl) (fun _ _ _ h => h) (Or.inl ⟨rfl, ?ys2⟩) (by assumption) ?_
      case ys2 => (intro w hSw; (try dsimp only at hSw); go_simp; first | done | with_reducible rfl)
      simp only [List.getElem_toArray, List.getElem_cons_succ, List.getElem_cons_zero, Act.put, List.setIfInBounds_toArray, List.set_cons_zero, List.set_cons_succ]
      refine wpAnyH_take (i := 3) (v := ?vs3) rfl (by kernel_rfl) (by kernel_rfl) (by kernel_rfl) (fun _ _ _ h => h) (Or.inl ⟨rfl, ?ys3⟩) (by assumption) ?_
      case ys3 => (intro w hSw; (try dsimp only at hSw); go_simp; first | done | with_reducible rfl)
      simp only [List.getElem_toArray, List.getElem_cons_succ, List.getElem_cons_zero, Act.put, List.setIfInBounds_toArray, List.set_cons_zero, List.set_cons_succ]
      refine wpAnyH_ready (rs := [1, 8]) (by kernel_rfl) (by simp) ?_
      refine AllReadyH.cons rfl (fun K hK => ?_) (AllReadyH.cons rfl (fun K hK => ?_) AllReadyH.nil)
      · go_simp
        refine (hcop.out _).mono ?_
        rintro e w5 ⟨v, rfl, hrow, hb5⟩
        obtain ⟨g, cap, rfl, hnc⟩ : ∃ g cap, v = .slice (some ⟨g, 0, none⟩) (N + 1) cap ∧ N + 1 ≤ cap := by
          rcases hrow.2 with ⟨_, h0⟩ | h0
          · omega
          · obtain ⟨g, cap, cur, a1, a2, a3, a4, a5, a6, a7⟩ := h0
            exact ⟨g, cap, a1, a4⟩
        obtain ⟨A', c', e', hO⟩ := ORow.of_owns (cells := copC N) (ys := List.range (N + 1)) (fun _ => rfl) (by rw [List.length_range]; exact hrow)
        rw [List.length_range] at e' hO
        cases e'
        have hI := hO.srow
        clear hrow hO
        go_wp2_with fail
        refine hK.out _ _ ?_ (fun hHeld => ?_)
        · exact ⟨hHeld.1.step hb5, cell_step hHeld.2.1 hb5, cell_step hHeld.2.2.1 hb5, cell_step hHeld.2.2.2.1 hb5, cell_step hHeld.2.2.2.2.1 hb5, cell_step hHeld.2.2.2.2.2.1 hb5, cell_step hHeld.2.2.2.2.2.2.1 hb5, cell_step hHeld.2.2.2.2.2.2.2 hb5⟩
        clear hK K
        try simp only [List.getElem_toArray, List.getElem_cons_succ, List.getElem_cons_zero, Act.put, List.setIfInBounds_toArray, List.set_cons_zero, List.set_cons_succ]
        refine wpAnyH_ready (rs := [4, 8]) (by kernel_rfl) (by simp) ?_
        refine AllReadyH.cons rfl (fun K hK => ?_) (AllReadyH.cons rfl (fun K hK => ?_) AllReadyH.nil)
        · go_simp
          refine (hfl.out _ _ _ (hI) hnc).mono ?_
          rintro e w6 ⟨rfl, hb6⟩
          have hHeld6 : (fun w' => Below w.heap.size w w' ∧ w'.cell? ⟨w1.heap.size, 0, none⟩ = some (.int .i64 F) ∧ w'.cell? ⟨w1.heap.size, 1, none⟩ = some (.int .i64 L) ∧ w'.cell? ⟨w1.heap.size, 2, none⟩ = some (.int .i64 E) ∧ w'.cell? ⟨w1.heap.size, 3, none⟩ = some (.int .i64 a) ∧ w'.cell? ⟨w1.heap.size, 4, none⟩ = some (.int .i64 b) ∧ w'.cell? ⟨w1.heap.size, 5, none⟩ = some (.int .i64 s) ∧ w'.cell? ⟨w1.heap.size, 6, none⟩ = some (.int .i64 p)) w6 := ⟨hHeld.1.step hb6, cell_step hHeld.2.1 hb6, cell_step hHeld.2.2.1 hb6, cell_step hHeld.2.2.2.1 hb6, cell_step hHeld.2.2.2.2.1 hb6, cell_step hHeld.2.2.2.2.2.1 hb6, cell_step hHeld.2.2.2.2.2.2.1 hb6, cell_step hHeld.2.2.2.2.2.2.2 hb6⟩
          go_wp2_with fail
          refine hK.out _ _ ?_ (fun hHeld => ?_)
          · exact ⟨hHeld.1.step hb6, cell_step hHeld.2.1 hb6, cell_step hHeld.2.2.1 hb6, cell_step hHeld.2.2.2.1 hb6, cell_step hHeld.2.2.2.2.1 hb6, cell_step hHeld.2.2.2.2.2.1 hb6, cell_step hHeld.2.2.2.2.2.2.1 hb6, cell_step hHeld.2.2.2.2.2.2.2 hb6⟩
          clear hK K
          try simp only [List.getElem_toArray, List.getElem_cons_succ, List.getElem_cons_zero, Act.put, List.setIfInBounds_toArray, List.set_cons_zero, List.set_cons_succ]
          refine wpAnyH_take (i := 5) (v := ?vma5) rfl (by kernel_rfl) (by kernel_rfl) (by kernel_rfl) (fun _ _ _ h => h) (Or.inl ⟨rfl, ?yma5⟩) (by assumption) ?_
          case yma5 => (intro w hSw; (try dsimp only at hSw); go_simp; first | done | with_reducible rfl)
          simp only [List.getElem_toArray, List.getElem_cons_succ, List.getElem_cons_zero, Act.put, List.setIfInBounds_toArray, List.set_cons_zero, List.set_cons_succ]
          refine wpAnyH_take (i := 6) (v := ?vma6) rfl (by kernel_rfl) (by kernel_rfl) (by kernel_rfl) (fun _ _ _ h => h) (Or.inl ⟨rfl, ?yma6⟩) (by assumption) ?_
          case yma6 => (intro w hSw; (try dsimp only at hSw); go_simp; first | done | with_reducible rfl)
          simp only [List.getElem_toArray, List.getElem_cons_succ, List.getElem_cons_zero, Act.put, List.setIfInBounds_toArray, List.set_cons_zero, List.set_cons_succ]
          refine wpAnyH_take (i := 7) (v := ?vma7) rfl (by kernel_rfl) (by kernel_rfl) (by kernel_rfl) (fun _ _ _ h => h) (Or.inl ⟨rfl, ?yma7⟩) (by assumption) ?_
          case yma7 => (intro w hSw; (try dsimp only at hSw); go_simp; first | done | with_reducible rfl)
          simp only [List.getElem_toArray, List.getElem_cons_succ, List.getElem_cons_zero, Act.put, List.setIfInBounds_toArray, List.set_cons_zero, List.set_cons_succ]
          refine wpAnyH_ready (rs := [8]) (by kernel_rfl) (by simp) ?_
          refine AllReadyH.cons rfl (fun K hK => ?_) AllReadyH.nil
          go_simp
          refine hK.out _ _ ?_ (fun hHeld => ?_)
          · exact ⟨hHeld.1.alloc hHeld.1.size _, cell_on hHeld.2.1 _, cell_on hHeld.2.2.1 _, cell_on hHeld.2.2.2.1 _, cell_on hHeld.2.2.2.2.1 _, cell_on hHeld.2.2.2.2.2.1 _, cell_on hHeld.2.2.2.2.2.2.1 _, cell_on hHeld.2.2.2.2.2.2.2 _⟩
          clear hK K
          try simp only [List.getElem_toArray, List.getElem_cons_succ, List.getElem_cons_zero, Act.put, List.setIfInBounds_toArray, List.set_cons_zero, List.set_cons_succ]
          have hS8 := hHeld
          refine wpAnyH_ready (rs := [9]) (by kernel_rfl) (by simp) ?_
          refine AllReadyH.cons rfl (fun K hK => ?_) AllReadyH.nil
          go_simp
          have hZ : (w6.alloc (.cells #[.int .i64 (bk : Int), .int .i64 ((N : Int) - (bk : Int))] 51)).heap[w6.heap.size]? = some (.cells #[.int .i64 (bk : Int), .int .i64 ((N : Int) - (bk : Int))] 51) := heap_alloc_new _ _
          have hS9 : (fun w' => Below w.heap.size w w' ∧ w'.cell? ⟨w1.heap.size, 0, none⟩ = some (.int .i64 F) ∧ w'.cell? ⟨w1.heap.size, 1, none⟩ = some (.int .i64 L) ∧ w'.cell? ⟨w1.heap.size, 2, none⟩ = some (.int .i64 E) ∧ w'.cell? ⟨w1.heap.size, 3, none⟩ = some (.int .i64 a) ∧ w'.cell? ⟨w1.heap.size, 4, none⟩ = some (.int .i64 b) ∧ w'.cell? ⟨w1.heap.size, 5, none⟩ = some (.int .i64 s) ∧ w'.cell? ⟨w1.heap.size, 6, none⟩ = some (.int .i64 p)) (w6.alloc (.cells #[.int .i64 (bk : Int), .int .i64 ((N : Int) - (bk : Int))] 51)) := ⟨hHeld6.1.alloc hHeld6.1.size _, cell_on hHeld6.2.1 _, cell_on hHeld6.2.2.1 _, cell_on hHeld6.2.2.2.1 _, cell_on hHeld6.2.2.2.2.1 _, cell_on hHeld6.2.2.2.2.2.1 _, cell_on hHeld6.2.2.2.2.2.2.1 _, cell_on hHeld6.2.2.2.2.2.2.2 _⟩
          refine hK.out _ _ ?_ (fun hHeld9 => ?_)
          · exact hS9
          clear hK K hS8 hHeld6
          try simp only [List.getElem_toArray, List.getElem_cons_succ, List.getElem_cons_zero, Act.put, List.setIfInBounds_toArray, List.set_cons_zero, List.set_cons_succ]
          refine wpAnyH_take (i := 10) (v := ?vka10) rfl (by kernel_rfl) (by kernel_rfl) (by kernel_rfl) (fun _ _ _ h => h) (Or.inl ⟨rfl, ?yka10⟩) (by assumption) ?_
          case yka10 => (intro w hSw; (try dsimp only at hSw); go_simp; first | done | with_reducible rfl)
          simp only [List.getElem_toArray, List.getElem_cons_succ, List.getElem_cons_zero, Act.put, List.setIfInBounds_toArray, List.set_cons_zero, List.set_cons_succ]
          refine wpAnyH_done (by kernel_rfl) ?_ _
          have hbf := hS9.1
          clear hHeld9 hHeld hS9
          generalize w6.alloc (.cells #[.int .i64 (bk : Int), .int .i64 ((N : Int) - (bk : Int))] 51) = wz at *
          generalize w6.heap.size = FB at *
          have z0 := own_cell hZ (o := 0) rfl
          have z1 := own_cell hZ (o := 1) rfl
          have hlz := own_lt hZ
          go_wp2_with fail
          refine wp_region_held_drew (S := fun w' => Below w.heap.size w w' ∧ w'.cell? ⟨FB, 0, none⟩ = some (.int .i64 (bk : Int)) ∧ w'.cell? ⟨FB, 1, none⟩ = some (.int .i64 ((N : Int) - (bk : Int)))) (by kernel_rfl) ?_ (fun hHeld => ?_)
          · exact ⟨hbf.drew, cell_step z0 ((Below.refl _ _).drew), cell_step z1 ((Below.refl _ _).drew)⟩
          refine wpAnyH_take (i := 0) (v := ?vzaU1_0) rfl (by kernel_rfl) (by kernel_rfl) (by kernel_rfl) (fun _ _ _ h => h) (Or.inl ⟨rfl, ?yzaU1_0⟩) (by assumption) ?_
          case yzaU1_0 => (intro w hSw; (try dsimp only at hSw); go_simp; first | done | with_reducible rfl)
          simp only [List.getElem_toArray, List.getElem_cons_succ, List.getElem_cons_zero, Act.put, List.setIfInBounds_toArray, List.set_cons_zero, List.set_cons_succ]
          refine wpAnyH_take (i := 1) (v := ?vzaU1_1) rfl (by kernel_rfl) (by kernel_rfl) (by kernel_rfl) (fun _ _ _ h => h) (Or.inl ⟨rfl, ?yzaU1_1⟩) (by assumption) ?_
          case yzaU1_1 => (intro w hSw; (try dsimp only at hSw); go_simp; first | done | with_reducible rfl)
          simp only [List.getElem_toArray, List.getElem_cons_succ, List.getElem_cons_zero, Act.put, List.setIfInBounds_toArray, List.set_cons_zero, List.set_cons_succ]
          refine wpAnyH_take (i := 2) (v := ?vzaU1_2) rfl (by kernel_rfl) (by kernel_rfl) (by kernel_rfl) (fun _ _ _ h => h) (Or.inl ⟨rfl, ?yzaU1_2⟩) (by assumption) ?_
          case yzaU1_2 => (intro w hSw; (try dsimp only at hSw); go_simp; first | done | with_reducible rfl)
          simp only [List.getElem_toArray, List.getElem_cons_succ, List.getElem_cons_zero, Act.put, List.setIfInBounds_toArray, List.set_cons_zero, List.set_cons_succ]
          refine wpAnyH_take (i := 3) (v := ?vzaU1_3) rfl (by kernel_rfl) (by kernel_rfl) (by kernel_rfl) (fun _ _ _ h => h) (Or.inl ⟨rfl, ?yzaU1_3⟩) (by assumption) ?_
          case yzaU1_3 => (intro w hSw; (try dsimp only at hSw); go_simp; first | done | with_reducible rfl)
          simp only [List.getElem_toArray, List.getElem_cons_succ, List.getElem_cons_zero, Act.put, List.setIfInBounds_toArray, List.set_cons_zero, List.set_cons_succ]
          refine wpAnyH_take (i := 4) (v := ?vzaU1_4) rfl (by kernel_rfl) (by kernel_rfl) (by kernel_rfl) (fun _ _ _ h => h) (Or.inl ⟨rfl, ?yzaU1_4⟩) (by assumption) ?_
          case yzaU1_4 => (intro w hSw; (try dsimp only at hSw); go_simp; first | done | with_reducible rfl)
          simp only [List.getElem_toArray, List.getElem_cons_succ, List.getElem_cons_zero, Act.put, List.setIfInBounds_toArray, List.set_cons_zero, List.set_cons_succ]
          refine wpAnyH_take (i := 5) (v := ?vzaU1_5) rfl (by kernel_rfl) (by kernel_rfl) (by kernel_rfl) (fun _ _ _ h => h) (Or.inl ⟨rfl, ?yzaU1_5⟩) (by assumption) ?_
          case yzaU1_5 => (intro w hSw; (try dsimp only at hSw); go_simp; first | done | with_reducible rfl)
          simp only [List.getElem_toArray, List.getElem_cons_succ, List.getElem_cons_zero, Act.put, List.setIfInBounds_toArray, List.set_cons_zero, List.set_cons_succ]
          refine wpAnyH_take (i := 6) (v := ?vzaU1_6) rfl (by kernel_rfl) (by kernel_rfl) (by kernel_rfl) (fun _ _ _ h => h) (Or.inl ⟨rfl, ?yzaU1_6⟩) (by assumption) ?_
          case yzaU1_6 => (intro w hSw; (try dsimp only at hSw); go_simp; first | done | with_reducible rfl)
          simp only [List.getElem_toArray, List.getElem_cons_succ, List.getElem_cons_zero, Act.put, List.setIfInBounds_toArray, List.set_cons_zero, List.set_cons_succ]
          refine wpAnyH_take (i := 7) (v := ?vzaU1_7) rfl (by kernel_rfl) (by kernel_rfl) (by kernel_rfl) (fun _ _ _ h => h) (Or.inl ⟨rfl, ?yzaU1_7⟩) (by assumption) ?_
          case yzaU1_7 => (intro w hSw; (try dsimp only at hSw); go_simp; first | done | with_reducible rfl)
          simp only [List.getElem_toArray, List.getElem_cons_succ, List.getElem_cons_zero, Act.put, List.setIfInBounds_toArray, List.set_cons_zero, List.set_cons_succ]
          refine wpAnyH_take (i := 8) (v := ?vzaU1_8) rfl (by kernel_rfl) (by kernel_rfl) (by kernel_rfl) (fun _ _ _ h => h) (Or.inl ⟨rfl, ?yzaU1_8⟩) (by assumption) ?_
          case yzaU1_8 => (intro w hSw; (try dsimp only at hSw); go_simp; first | done | with_reducible rfl)
          simp only [List.getElem_toArray, List.getElem_cons_succ, List.getElem_cons_zero, Act.put, List.setIfInBounds_toArray, List.set_cons_zero, List.set_cons_succ]
          refine wpAnyH_done (by kernel_rfl) ?_ _
          have hbq := Lib.hid hHeld.1
          clear hHeld
          go_wp2
          refine bodyPost_ret (v := .tuple #[.int .i64 (bk : Int), .int .i64 ((N : Int) - (bk : Int)), .int .i64 bp, .int .i64 0]) (by simp [results, Try.results13, go_sem]) rfl ?_
          exact ⟨ret13_4 hb.out, hbq.out⟩
        · go_simp
          refine hK.out _ _ ?_ (fun hHeld => ?_)
          · exact ⟨hHeld.1.alloc hHeld.1.size _, cell_on hHeld.2.1 _, cell_on hHeld.2.2.1 _, cell_on hHeld.2.2.2.1 _, cell_on hHeld.2.2.2.2.1 _, cell_on hHeld.2.2.2.2.2.1 _, cell_on hHeld.2.2.2.2.2.2.1 _, cell_on hHeld.2.2.2.2.2.2.2 _⟩
          clear hK K
          try simp only [List.getElem_toArray, List.getElem_cons_succ, List.getElem_cons_zero, Act.put, List.setIfInBounds_toArray, List.set_cons_zero, List.set_cons_succ]
          refine wpAnyH_ready (rs := [4]) (by kernel_rfl) (by simp) ?_
          refine AllReadyH.cons rfl (fun K hK => ?_) AllReadyH.nil
          go_simp
          refine (hfl.out _ _ _ (hI.below (below_a1 _ _)) hnc).mono ?_
          rintro e w6 ⟨rfl, hb6⟩
          go_wp2_with fail
          refine hK.out _ _ ?_ (fun hHeld => ?_)
          · exact ⟨hHeld.1.step hb6, cell_step hHeld.2.1 hb6, cell_step hHeld.2.2.1 hb6, cell_step hHeld.2.2.2.1 hb6, cell_step hHeld.2.2.2.2.1 hb6, cell_step hHeld.2.2.2.2.2.1 hb6, cell_step hHeld.2.2.2.2.2.2.1 hb6, cell_step hHeld.2.2.2.2.2.2.2 hb6⟩
          clear hK K
          try simp only [List.getElem_toArray, List.getElem_cons_succ, List.getElem_cons_zero, Act.put, List.setIfInBounds_toArray, List.set_cons_zero, List.set_cons_succ]
          have hFB : w6.heap[w5.heap.size]? = some (.cells #[.int .i64 0, .int .i64 0] 51) := own_block hb6
          refine wpAnyH_take (i := 5) (v := ?vmb5) rfl (by kernel_rfl) (by kernel_rfl) (by kernel_rfl) (fun _ _ _ h => h) (Or.inl ⟨rfl, ?ymb5⟩) (by assumption) ?_
          case ymb5 => (intro w hSw; (try dsimp only at hSw); go_simp; first | done | with_reducible rfl)
          simp only [List.getElem_toArray, List.getElem_cons_succ, List.getElem_cons_zero, Act.put, List.setIfInBounds_toArray, List.set_cons_zero, List.set_cons_succ]
          refine wpAnyH_take (i := 6) (v := ?vmb6) rfl (by kernel_rfl) (by kernel_rfl) (by kernel_rfl) (fun _ _ _ h => h) (Or.inl ⟨rfl, ?ymb6⟩) (by assumption) ?_
          case ymb6 => (intro w hSw; (try dsimp only at hSw); go_simp; first | done | with_reducible rfl)
          simp only [List.getElem_toArray, List.getElem_cons_succ, List.getElem_cons_zero, Act.put, List.setIfInBounds_toArray, List.set_cons_zero, List.set_cons_succ]
          refine wpAnyH_take (i := 7) (v := ?vmb7) rfl (by kernel_rfl) (by kernel_rfl) (by kernel_rfl) (fun _ _ _ h => h) (Or.inl ⟨rfl, ?ymb7⟩) (by assumption) ?_
          case ymb7 => (intro w hSw; (try dsimp only at hSw); go_simp; first | done | with_reducible rfl)
          simp only [List.getElem_toArray, List.getElem_cons_succ, List.getElem_cons_zero, Act.put, List.setIfInBounds_toArray, List.set_cons_zero, List.set_cons_succ]
          have hFge : w.heap.size ≤ w5.heap.size := Nat.le_trans hwz1 (by have := hb5.size; simp at this; omega)
          have hFne : w5.heap.size ≠ w1.heap.size := by have := hb5.size; simp at this; omega
          have hF1 := hFB
          have L0 := own_cell hF1 (o := 0) rfl
          have L1 := own_cell hF1 (o := 1) rfl
          have F0 := own_frozen hF1 0
          have F1 := own_frozen hF1 1
          have hltF := own_lt hF1
          refine wpAnyH_ready (rs := [9]) (by kernel_rfl) (by simp) ?_
          refine AllReadyH.cons rfl (fun K hK => ?_) AllReadyH.nil
          go_simp
          have hZ := set_block13 (i := 1) (v := .int .i64 ((N : Int) - (bk : Int))) (set_block13 (i := 0) (v := .int .i64 (bk : Int)) hF1)
          simp only [List.setIfInBounds_toArray, List.set_cons_zero, List.set_cons_succ] at hZ
          have hS9 : (fun w' => Below w.heap.size w w' ∧ w'.cell? ⟨w1.heap.size, 0, none⟩ = some (.int .i64 F) ∧ w'.cell? ⟨w1.heap.size, 1, none⟩ = some (.int .i64 L) ∧ w'.cell? ⟨w1.heap.size, 2, none⟩ = some (.int .i64 E) ∧ w'.cell? ⟨w1.heap.size, 3, none⟩ = some (.int .i64 a) ∧ w'.cell? ⟨w1.heap.size, 4, none⟩ = some (.int .i64 b) ∧ w'.cell? ⟨w1.heap.size, 5, none⟩ = some (.int .i64 s) ∧ w'.cell? ⟨w1.heap.size, 6, none⟩ = some (.int .i64 p)) ((w6.setCell ⟨w5.heap.size, 0, none⟩ (.int .i64 (bk : Int))).setCell ⟨w5.heap.size, 1, none⟩ (.int .i64 ((N : Int) - (bk : Int)))) := ⟨(hHeld.1.setCell hFge _).setCell hFge _, cell_else13 (cell_else13 hHeld.2.1 hFne) hFne, cell_else13 (cell_else13 hHeld.2.2.1 hFne) hFne, cell_else13 (cell_else13 hHeld.2.2.2.1 hFne) hFne, cell_else13 (cell_else13 hHeld.2.2.2.2.1 hFne) hFne, cell_else13 (cell_else13 hHeld.2.2.2.2.2.1 hFne) hFne, cell_else13 (cell_else13 hHeld.2.2.2.2.2.2.1 hFne) hFne, cell_else13 (cell_else13 hHeld.2.2.2.2.2.2.2 hFne) hFne⟩
          refine hK.out _ _ ?_ (fun hHeld9 => ?_)
          · exact hS9
          clear hK K
          try simp only [List.getElem_toArray, List.getElem_cons_succ, List.getElem_cons_zero, Act.put, List.setIfInBounds_toArray, List.set_cons_zero, List.set_cons_succ]
          clear L0 L1 F0 F1 hF1 hFB hltF
          refine wpAnyH_take (i := 10) (v := ?vkb10) rfl (by kernel_rfl) (by kernel_rfl) (by kernel_rfl) (fun _ _ _ h => h) (Or.inl ⟨rfl, ?ykb10⟩) (by assumption) ?_
          case ykb10 => (intro w hSw; (try dsimp only at hSw); go_simp; first | done | with_reducible rfl)
          simp only [List.getElem_toArray, List.getElem_cons_succ, List.getElem_cons_zero, Act.put, List.setIfInBounds_toArray, List.set_cons_zero, List.set_cons_succ]
          refine wpAnyH_done (by kernel_rfl) ?_ _
          have hbf := hS9.1
          clear hHeld9 hHeld hS9
          generalize ((w6.setCell ⟨w5.heap.size, 0, none⟩ (.int .i64 (bk : Int))).setCell ⟨w5.heap.size, 1, none⟩ (.int .i64 ((N : Int) - (bk : Int)))) = wz at *
          generalize w5.heap.size = FB at *
          have z0 := own_cell hZ (o := 0) rfl
          have z1 := own_cell hZ (o := 1) rfl
          have hlz := own_lt hZ
          go_wp2_with fail
          refine wp_region_held_drew (S := fun w' => Below w.heap.size w w' ∧ w'.cell? ⟨FB, 0, none⟩ = some (.int .i64 (bk : Int)) ∧ w'.cell? ⟨FB, 1, none⟩ = some (.int .i64 ((N : Int) - (bk : Int)))) (by kernel_rfl) ?_ (fun hHeld => ?_)
          · exact ⟨hbf.drew, cell_step z0 ((Below.refl _ _).drew), cell_step z1 ((Below.refl _ _).drew)⟩
          refine wpAnyH_take (i := 0) (v := ?vzbU2_0) rfl (by kernel_rfl) (by kernel_rfl) (by kernel_rfl) (fun _ _ _ h => h) (Or.inl ⟨rfl, ?yzbU2_0⟩) (by assumption) ?_
          case yzbU2_0 => (intro w hSw; (try dsimp only at hSw); go_simp; first | done | with_reducible rfl)
          simp only [List.getElem_toArray, List.getElem_cons_succ, List.getElem_cons_zero, Act.put, List.setIfInBounds_toArray, List.set_cons_zero, List.set_cons_succ]
          refine wpAnyH_take (i := 1) (v := ?vzbU2_1) rfl (by kernel_rfl) (by kernel_rfl) (by kernel_rfl) (fun _ _ _ h => h) (Or.inl ⟨rfl, ?yzbU2_1⟩) (by assumption) ?_
          case yzbU2_1 => (intro w hSw; (try dsimp only at hSw); go_simp; first | done | with_reducible rfl)
          simp only [List.getElem_toArray, List.getElem_cons_succ, List.getElem_cons_zero, Act.put, List.setIfInBounds_toArray, List.set_cons_zero, List.set_cons_succ]
          refine wpAnyH_take (i := 2) (v := ?vzbU2_2) rfl (by kernel_rfl) (by kernel_rfl) (by kernel_rfl) (fun _ _ _ h => h) (Or.inl ⟨rfl, ?yzbU2_2⟩) (by assumption) ?_
          case yzbU2_2 => (intro w hSw; (try dsimp only at hSw); go_simp; first | done | with_reducible rfl)
          simp only [List.getElem_toArray, List.getElem_cons_succ, List.getElem_cons_zero, Act.put, List.setIfInBounds_toArray, List.set_cons_zero, List.set_cons_succ]
          refine wpAnyH_take (i := 3) (v := ?vzbU2_3) rfl (by kernel_rfl) (by kernel_rfl) (by kernel_rfl) (fun _ _ _ h => h) (Or.inl ⟨rfl, ?yzbU2_3⟩) (by assumption) ?_
          case yzbU2_3 => (intro w hSw; (try dsimp only at hSw); go_simp; first | done | with_reducible rfl)
          simp only [List.getElem_toArray, List.getElem_cons_succ, List.getElem_cons_zero, Act.put, List.setIfInBounds_toArray, List.set_cons_zero, List.set_cons_succ]
          refine wpAnyH_take (i := 4) (v := ?vzbU2_4) rfl (by kernel_rfl) (by kernel_rfl) (by kernel_rfl) (fun _ _ _ h => h) (Or.inl ⟨rfl, ?yzbU2_4⟩) (by assumption) ?_
          case yzbU2_4 => (intro w hSw; (try dsimp only at hSw); go_simp; first | done | with_reducible rfl)
          simp only [List.getElem_toArray, List.getElem_cons_succ, List.getElem_cons_zero, Act.put, List.setIfInBounds_toArray, List.set_cons_zero, List.set_cons_succ]
          refine wpAnyH_take (i := 5) (v := ?vzbU2_5) rfl (by kernel_rfl) (by kernel_rfl) (by kernel_rfl) (fun _ _ _ h => h) (Or.inl ⟨rfl, ?yzbU2_5⟩) (by assumption) ?_
          case yzbU2_5 => (intro w hSw; (try dsimp only at hSw); go_simp; first | done | with_reducible rfl)
          simp only [List.getElem_toArray, List.getElem_cons_succ, List.getElem_cons_zero, Act.put, List.setIfInBounds_toArray, List.set_cons_zero, List.set_cons_succ]
          refine wpAnyH_take (i := 6) (v := ?vzbU2_6) rfl (by kernel_rfl) (by kernel_rfl) (by kernel_rfl) (fun _ _ _ h => h) (Or.inl ⟨rfl, ?yzbU2_6⟩) (by assumption) ?_
          case yzbU2_6 => (intro w hSw; (try dsimp only at hSw); go_simp; first | done | with_reducible rfl)
          simp only [List.getElem_toArray, List.getElem_cons_succ, List.getElem_cons_zero, Act.put, List.setIfInBounds_toArray, List.set_cons_zero, List.set_cons_succ]
          refine wpAnyH_take (i := 7) (v := ?vzbU2_7) rfl (by kernel_rfl) (by kernel_rfl) (by kernel_rfl) (fun _ _ _ h => h) (Or.inl ⟨rfl, ?yzbU2_7⟩) (by assumption) ?_
          case yzbU2_7 => (intro w hSw; (try dsimp only at hSw); go_simp; first | done | with_reducible rfl)
          simp only [List.getElem_toArray, List.getElem_cons_succ, List.getElem_cons_zero, Act.put, List.setIfInBounds_toArray, List.set_cons_zero, List.set_cons_succ]
          refine wpAnyH_take (i := 8) (v := ?vzbU2_8) rfl (by kernel_rfl) (by kernel_rfl) (by kernel_rfl) (fun _ _ _ h => h) (Or.inl ⟨rfl, ?yzbU2_8⟩) (by assumption) ?_
          case yzbU2_8 => (intro w hSw; (try dsimp only at hSw); go_simp; first | done | with_reducible rfl)
          simp only [List.getElem_toArray, List.getElem_cons_succ, List.getElem_cons_zero, Act.put, List.setIfInBounds_toArray, List.set_cons_zero, List.set_cons_succ]
          refine wpAnyH_done (by kernel_rfl) ?_ _
          have hbq := Lib.hid hHeld.1
          clear hHeld
          go_wp2
          refine bodyPost_ret (v := .tuple #[.int .i64 (bk : Int), .int .i64 ((N : Int) - (bk : Int)), .int .i64 bp, .int .i64 0]) (by simp [results, Try.results13, go_sem]) rfl ?_
          exact ⟨ret13_4 hb.out, hbq.out⟩
      · go_simp
        refine hK.out _ _ ?_ (fun hHeld => ?_)
        · exact ⟨hHeld.1.alloc hHeld.1.size _, cell_on hHeld.2.1 _, cell_on hHeld.2.2.1 _, cell_on hHeld.2.2.2.1 _, cell_on hHeld.2.2.2.2.1 _, cell_on hHeld.2.2.2.2.2.1 _, cell_on hHeld.2.2.2.2.2.2.1 _, cell_on hHeld.2.2.2.2.2.2.2 _⟩
        clear hK K
        try simp only [List.getElem_toArray, List.getElem_cons_succ, List.getElem_cons_zero, Act.put, List.setIfInBounds_toArray, List.set_cons_zero, List.set_cons_succ]
        refine wpAnyH_ready (rs := [1]) (by kernel_rfl) (by simp) ?_
        refine AllReadyH.cons rfl (fun K hK => ?_) AllReadyH.nil
        go_simp
        refine (hcop.out _).mono ?_
        rintro e w5 ⟨v, rfl, hrow, hb5⟩
        obtain ⟨g, cap, rfl, hnc⟩ : ∃ g cap, v = .slice (some ⟨g, 0, none⟩) (N + 1) cap ∧ N + 1 ≤ cap := by
          rcases hrow.2 with ⟨_, h0⟩ | h0
          · omega
          · obtain ⟨g, cap, cur, a1, a2, a3, a4, a5, a6, a7⟩ := h0
            exact ⟨g, cap, a1, a4⟩
        obtain ⟨A', c', e', hO⟩ := ORow.of_owns (cells := copC N) (ys := List.range (N + 1)) (fun _ => rfl) (by rw [List.length_range]; exact hrow)
        rw [List.length_range] at e' hO
        cases e'
        have hI := hO.srow
        clear hrow hO
        go_wp2_with fail
        refine hK.out _ _ ?_ (fun hHeld => ?_)
        · exact ⟨hHeld.1.step hb5, cell_step hHeld.2.1 hb5, cell_step hHeld.2.2.1 hb5, cell_step hHeld.2.2.2.1 hb5, cell_step hHeld.2.2.2.2.1 hb5, cell_step hHeld.2.2.2.2.2.1 hb5, cell_step hHeld.2.2.2.2.2.2.1 hb5, cell_step hHeld.2.2.2.2.2.2.2 hb5⟩
        clear hK K
        try simp only [List.getElem_toArray, List.getElem_cons_succ, List.getElem_cons_zero, Act.put, List.setIfInBounds_toArray, List.set_cons_zero, List.set_cons_succ]
        have hFB5 : w5.heap[w1.heap.size + 1]? = some (.cells #[.int .i64 0, .int .i64 0] 51) := (hb5.block _ (by simp)).trans (blocks2c w1 (.cells #[.int .i64 F, .int .i64 L, .int .i64 E, .int .i64 a, .int .i64 b, .int .i64 s, .int .i64 p] 47) (.cells #[.int .i64 0, .int .i64 0] 51)).2
        refine wpAnyH_ready (rs := [4]) (by kernel_rfl) (by simp) ?_
        refine AllReadyH.cons rfl (fun K hK => ?_) AllReadyH.nil
        go_simp
        refine (hfl.out _ _ _ (hI) hnc).mono ?_
        rintro e w6 ⟨rfl, hb6⟩
        go_wp2_with fail
        refine hK.out _ _ ?_ (fun hHeld => ?_)
        · exact ⟨hHeld.1.step hb6, cell_step hHeld.2.1 hb6, cell_step hHeld.2.2.1 hb6, cell_step hHeld.2.2.2.1 hb6, cell_step hHeld.2.2.2.2.1 hb6, cell_step hHeld.2.2.2.2.2.1 hb6, cell_step hHeld.2.2.2.2.2.2.1 hb6, cell_step hHeld.2.2.2.2.2.2.2 hb6⟩
        clear hK K
        try simp only [List.getElem_toArray, List.getElem_cons_succ, List.getElem_cons_zero, Act.put, List.setIfInBounds_toArray, List.set_cons_zero, List.set_cons_succ]
        have hFB : w6.heap[w1.heap.size + 1]? = some (.cells #[.int .i64 0, .int .i64 0] 51) := (hb6.block _ (own_lt hFB5)).trans hFB5
        refine wpAnyH_take (i := 5) (v := ?vmc5) rfl (by kernel_rfl) (by kernel_rfl) (by kernel_rfl) (fun _ _ _ h => h) (Or.inl ⟨rfl, ?ymc5⟩) (by assumption) ?_
        case ymc5 => (intro w hSw; (try dsimp only at hSw); go_simp; first | done | with_reducible rfl)
        simp only [List.getElem_toArray, List.getElem_cons_succ, List.getElem_cons_zero, Act.put, List.setIfInBounds_toArray, List.set_cons_zero, List.set_cons_succ]
        refine wpAnyH_take (i := 6) (v := ?vmc6) rfl (by kernel_rfl) (by kernel_rfl) (by kernel_rfl) (fun _ _ _ h => h) (Or.inl ⟨rfl, ?ymc6⟩) (by assumption) ?_
        case ymc6 => (intro w hSw; (try dsimp only at hSw); go_simp; first | done | with_reducible rfl)
        simp only [List.getElem_toArray, List.getElem_cons_succ, List.getElem_cons_zero, Act.put, List.setIfInBounds_toArray, List.set_cons_zero, List.set_cons_succ]
        refine wpAnyH_take (i := 7) (v := ?vmc7) rfl (by kernel_rfl) (by kernel_rfl) (by kernel_rfl) (fun _ _ _ h => h) (Or.inl ⟨rfl, ?ymc7⟩) (by assumption) ?_
        case ymc7 => (intro w hSw; (try dsimp only at hSw); go_simp; first | done | with_reducible rfl)
        simp only [List.getElem_toArray, List.getElem_cons_succ, List.getElem_cons_zero, Act.put, List.setIfInBounds_toArray, List.set_cons_zero, List.set_cons_succ]
        have hFge : w.heap.size ≤ w1.heap.size + 1 := by omega
        have hFne : w1.heap.size + 1 ≠ w1.heap.size := by omega
        have hF1 := hFB
        have L0 := own_cell hF1 (o := 0) rfl
        have L1 := own_cell hF1 (o := 1) rfl
        have F0 := own_frozen hF1 0
        have F1 := own_frozen hF1 1
        have hltF := own_lt hF1
        refine wpAnyH_ready (rs := [9]) (by kernel_rfl) (by simp) ?_
        refine AllReadyH.cons rfl (fun K hK => ?_) AllReadyH.nil
        go_simp
        have hZ := set_block13 (i := 1) (v := .int .i64 ((N : Int) - (bk : Int))) (set_block13 (i := 0) (v := .int .i64 (bk : Int)) hF1)
        simp only [List.setIfInBounds_toArray, List.set_cons_zero, List.set_cons_succ] at hZ
        have hS9 : (fun w' => Below w.heap.size w w' ∧ w'.cell? ⟨w1.heap.size, 0, none⟩ = some (.int .i64 F) ∧ w'.cell? ⟨w1.heap.size, 1, none⟩ = some (.int .i64 L) ∧ w'.cell? ⟨w1.heap.size, 2, none⟩ = some (.int .i64 E) ∧ w'.cell? ⟨w1.heap.size, 3, none⟩ = some (.int .i64 a) ∧ w'.cell? ⟨w1.heap.size, 4, none⟩ = some (.int .i64 b) ∧ w'.cell? ⟨w1.heap.size, 5, none⟩ = some (.int .i64 s) ∧ w'.cell? ⟨w1.heap.size, 6, none⟩ = some (.int .i64 p)) ((w6.setCell ⟨w1.heap.size + 1, 0, none⟩ (.int .i64 (bk : Int))).setCell ⟨w1.heap.size + 1, 1, none⟩ (.int .i64 ((N : Int) - (bk : Int)))) := ⟨(hHeld.1.setCell hFge _).setCell hFge _, cell_else13 (cell_else13 hHeld.2.1 hFne) hFne, cell_else13 (cell_else13 hHeld.2.2.1 hFne) hFne, cell_else13 (cell_else13 hHeld.2.2.2.1 hFne) hFne, cell_else13 (cell_else13 hHeld.2.2.2.2.1 hFne) hFne, cell_else13 (cell_else13 hHeld.2.2.2.2.2.1 hFne) hFne, cell_else13 (cell_else13 hHeld.2.2.2.2.2.2.1 hFne) hFne, cell_else13 (cell_else13 hHeld.2.2.2.2.2.2.2 hFne) hFne⟩
        refine hK.out _ _ ?_ (fun hHeld9 => ?_)
        · exact hS9
        clear hK K
        try simp only [List.getElem_toArray, List.getElem_cons_succ, List.getElem_cons_zero, Act.put, List.setIfInBounds_toArray, List.set_cons_zero, List.set_cons_succ]
        clear L0 L1 F0 F1 hF1 hFB hltF
        refine wpAnyH_take (i := 10) (v := ?vkc10) rfl (by kernel_rfl) (by kernel_rfl) (by kernel_rfl) (fun _ _ _ h => h) (Or.inl ⟨rfl, ?ykc10⟩) (by assumption) ?_
        case ykc10 => (intro w hSw; (try dsimp only at hSw); go_simp; first | done | with_reducible rfl)
        simp only [List.getElem_toArray, List.getElem_cons_succ, List.getElem_cons_zero, Act.put, List.setIfInBounds_toArray, List.set_cons_zero, List.set_cons_succ]
        refine wpAnyH_done (by kernel_rfl) ?_ _
        have hbf := hS9.1
        clear hHeld9 hHeld hS9
        generalize ((w6.setCell ⟨w1.heap.size + 1, 0, none⟩ (.int .i64 (bk : Int))).setCell ⟨w1.heap.size + 1, 1, none⟩ (.int .i64 ((N : Int) - (bk : Int)))) = wz at *
        generalize w1.heap.size + 1 = FB at *
        have z0 := own_cell hZ (o := 0) rfl
        have z1 := own_cell hZ (o := 1) rfl
        have hlz := own_lt hZ
        go_wp2_with fail
        refine wp_region_held_drew (S := fun w' => Below w.heap.size w w' ∧ w'.cell? ⟨FB, 0, none⟩ = some (.int .i64 (bk : Int)) ∧ w'.cell? ⟨FB, 1, none⟩ = some (.int .i64 ((N : Int) - (bk : Int)))) (by kernel_rfl) ?_ (fun hHeld => ?_)
        · exact ⟨hbf.drew, cell_step z0 ((Below.refl _ _).drew), cell_step z1 ((Below.refl _ _).drew)⟩
        refine wpAnyH_take (i := 0) (v := ?vzcU3_0) rfl (by kernel_rfl) (by kernel_rfl) (by kernel_rfl) (fun _ _ _ h => h) (Or.inl ⟨rfl, ?yzcU3_0⟩) (by assumption) ?_
        case yzcU3_0 => (intro w hSw; (try dsimp only at hSw); go_simp; first | done | with_reducible rfl)
        simp only [List.getElem_toArray, List.getElem_cons_succ, List.getElem_cons_zero, Act.put, List.setIfInBounds_toArray, List.set_cons_zero, List.set_cons_succ]
        refine wpAnyH_take (i := 1) (v := ?vzcU3_1) rfl (by kernel_rfl) (by kernel_rfl) (by kernel_rfl) (fun _ _ _ h => h) (Or.inl ⟨rfl, ?yzcU3_1⟩) (by assumption) ?_
        case yzcU3_1 => (intro w hSw; (try dsimp only at hSw); go_simp; first | done | with_reducible rfl)
        simp only [List.getElem_toArray, List.getElem_cons_succ, List.getElem_cons_zero, Act.put, List.setIfInBounds_toArray, List.set_cons_zero, List.set_cons_succ]
        refine wpAnyH_take (i := 2) (v := ?vzcU3_2) rfl (by kernel_rfl) (by kernel_rfl) (by kernel_rfl) (fun _ _ _ h => h) (Or.inl ⟨rfl, ?yzcU3_2⟩) (by assumption) ?_
        case yzcU3_2 => (intro w hSw; (try dsimp only at hSw); go_simp; first | done | with_reducible rfl)
        simp only [List.getElem_toArray, List.getElem_cons_succ, List.getElem_cons_zero, Act.put, List.setIfInBounds_toArray, List.set_cons_zero, List.set_cons_succ]
        refine wpAnyH_take (i := 3) (v := ?vzcU3_3) rfl (by kernel_rfl) (by kernel_rfl) (by kernel_rfl) (fun _ _ _ h => h) (Or.inl ⟨rfl, ?yzcU3_3⟩) (by assumption) ?_
        case yzcU3_3 => (intro w hSw; (try dsimp only at hSw); go_simp; first | done | with_reducible rfl)
        simp only [List.getElem_toArray, List.getElem_cons_succ, List.getElem_cons_zero, Act.put, List.setIfInBounds_toArray, List.set_cons_zero, List.set_cons_succ]
        refine wpAnyH_take (i := 4) (v := ?vzcU3_4) rfl (by kernel_rfl) (by kernel_rfl) (by kernel_rfl) (fun _ _ _ h => h) (Or.inl ⟨rfl, ?yzcU3_4⟩) (by assumption) ?_
        case yzcU3_4 => (intro w hSw; (try dsimp only at hSw); go_simp; first | done | with_reducible rfl)
        simp only [List.getElem_toArray, List.getElem_cons_succ, List.getElem_cons_zero, Act.put, List.setIfInBounds_toArray, List.set_cons_zero, List.set_cons_succ]
        refine wpAnyH_take (i := 5) (v := ?vzcU3_5) rfl (by kernel_rfl) (by kernel_rfl) (by kernel_rfl) (fun _ _ _ h => h) (Or.inl ⟨rfl, ?yzcU3_5⟩) (by assumption) ?_
        case yzcU3_5 => (intro w hSw; (try dsimp only at hSw); go_simp; first | done | with_reducible rfl)
        simp only [List.getElem_toArray, List.getElem_cons_succ, List.getElem_cons_zero, Act.put, List.setIfInBounds_toArray, List.set_cons_zero, List.set_cons_succ]
        refine wpAnyH_take (i := 6) (v := ?vzcU3_6) rfl (by kernel_rfl) (by kernel_rfl) (by kernel_rfl) (fun _ _ _ h => h) (Or.inl ⟨rfl, ?yzcU3_6⟩) (by assumption) ?_
        case yzcU3_6 => (intro w hSw; (try dsimp only at hSw); go_simp; first | done | with_reducible rfl)
        simp only [List.getElem_toArray, List.getElem_cons_succ, List.getElem_cons_zero, Act.put, List.setIfInBounds_toArray, List.set_cons_zero, List.set_cons_succ]
        refine wpAnyH_take (i := 7) (v := ?vzcU3_7) rfl (by kernel_rfl) (by kernel_rfl) (by kernel_rfl) (fun _ _ _ h => h) (Or.inl ⟨rfl, ?yzcU3_7⟩) (by assumption) ?_
        case yzcU3_7 => (intro w hSw; (try dsimp only at hSw); go_simp; first | done | with_reducible rfl)
        simp only [List.getElem_toArray, List.getElem_cons_succ, List.getElem_cons_zero, Act.put, List.setIfInBounds_toArray, List.set_cons_zero, List.set_cons_succ]
        refine wpAnyH_take (i := 8) (v := ?vzcU3_8) rfl (by kernel_rfl) (by kernel_rfl) (by kernel_rfl) (fun _ _ _ h => h) (Or.inl ⟨rfl, ?yzcU3_8⟩) (by assumption) ?_
        case yzcU3_8 => (intro w hSw; (try dsimp only at hSw); go_simp; first | done | with_reducible rfl)
        simp only [List.getElem_toArray, List.getElem_cons_succ, List.getElem_cons_zero, Act.put, List.setIfInBounds_toArray, List.set_cons_zero, List.set_cons_succ]
        refine wpAnyH_done (by kernel_rfl) ?_ _
        have hbq := Lib.hid hHeld.1
        clear hHeld
        go_wp2
        refine bodyPost_ret (v := .tuple #[.int .i64 (bk : Int), .int .i64 ((N : Int) - (bk : Int)), .int .i64 bp, .int .i64 0]) (by simp [results, Try.results13, go_sem]) rfl ?_
        exact ⟨ret13_4 hb.out, hbq.out⟩
end Go.Proofs.Ytlnhjknpeafgoaa
