/- The model's machine does an act that moves it on. -/
import Derived.Test.YtphhpmnigchooaaMach2
namespace Go.Proofs.Ytphhpmnigchooaa
open Go.RowKit Go.ChangeShapes Go.WideShapes Go.Deep
set_option linter.unusedVariables false
set_option linter.unusedSimpArgs false
theorem want_pos {c p q : Prop} {i : Decidable c} (h : c) (hp : p) : @ite Prop c i p q := by rw [if_pos h]; exact hp
theorem owns_form {w : World} {base : Nat} {E : TypeId} {size n : Nat} {v : Value} {xs : List Value} (h : w.ownsRow base E size v n xs) : ∃ A c, v = .slice A n c := by
  obtain ⟨_, ⟨rfl, rfl⟩ | ⟨g', cap, cur, rfl, _⟩⟩ := h
  · exact ⟨_, _, rfl⟩
  · exact ⟨_, _, rfl⟩
theorem owns_ge {w : World} {base : Nat} {E : TypeId} {size n g : Nat} {v : Value} {xs : List Value} (h : w.ownsRow base E size v n xs) (hg : v.ownBlock = some g) : base ≤ g := by
  obtain ⟨_, ⟨rfl, _⟩ | ⟨g', cap, cur, rfl, hb, _⟩⟩ := h
  · cases hg
  · cases hg; exact hb
set_option maxRecDepth 100000 in
set_option maxHeartbeats 4000000 in
theorem act0_spec (c : CarriageD) (s : StD) (letter : ByteArray) (R b off base : Nat) (L : Value) (w : World) (hM : Mach w base R c s L) (hc : carOk c = true) (hs : 0 ≤ s.at_ ∧ s.at_ ≤ 300) (hbl : s.bells ≤ 1000) (hlen : s.out.length ≤ 1000) (hz : base ≤ w.heap.size)
    (c0 : w.cell? ⟨b, off, none⟩ = some (.int .i64 0)) (c1 : w.cell? ⟨b, off + 1, none⟩ = some (.string letter)) (hbr : b < base) :
    Calls Try.prog 42 #[.pointer (some ⟨R, 0, none⟩), .pointer (some ⟨b, off, none⟩)] w (ActOut base R c s ⟨0, letter⟩ L w) := by
  obtain ⟨⟨l0, l1⟩, ⟨r0, r1⟩, r2, ⟨b0, b1⟩⟩ := carOk_iff.1 hc
  obtain ⟨d0, d1, d2, d3, d4, d5, d6⟩ := hM.cells
  have fz := hM.frozen
  have f3 := fz 3
  have f4 := fz 4
  have f5 := fz 5
  have f6 := fz 6
  have hRlt := hM.lt
  have hRb := hM.base_le
  clear fz hc
  obtain ⟨s0, s1⟩ := hs
  obtain ⟨at_, free, bells, out⟩ := s
  obtain ⟨left, right, bell⟩ := c
  simp only at s0 s1 hbl hlen l0 l1 r0 r1 r2 b0 b1 d0 d1 d2 d3 d4 d5 d6
  replace hM := Lib.hid hM
  have hst : Hid (stepOf 0 = 2) := Lib.hid (by decide)
  by_cases hR : right < at_ + 2
  · have g1 : decide (right < at_ + 2) = true := decide_eq_true hR
    cases free with
    | false =>
      go_enter Try.func42, Try.ntmps42
      go_wp2_with fail
      refine (step_spec 0 hst.out _).mono ?_
      rintro e w' ⟨rfl, rfl⟩
      go_wp2_with fail
      go_quiet (fail)
      go_wp2
      go_ret
      exact ActOut.no (by simp [actS, stepOf]; omega) (below_drewN (Below.refl _ _) _) (hM.out.drewN _)
    | true =>
      by_cases hX : 300 < at_ + 2
      · have g2 : decide (300 < at_ + 2) = true := decide_eq_true hX
        go_enter Try.func42, Try.ntmps42
        go_wp2_with fail
        refine (step_spec 0 hst.out _).mono ?_
        rintro e w' ⟨rfl, rfl⟩
        go_wp2_with fail
        go_quiet (fail)
        go_wp2
        go_ret
        exact ActOut.no (by simp [actS, stepOf]; omega) (below_drewN (Below.refl _ _) _) (hM.out.drewN _)
      · have g2 : decide (300 < at_ + 2) = false := decide_eq_false hX
        go_enter Try.func42, Try.ntmps42
        go_wp2_with fail
        refine (step_spec 0 hst.out _).mono ?_
        rintro e w' ⟨rfl, rfl⟩
        go_wp2_with fail
        go_quiet (fail)
        have hM1 := hM.out.drewN nq
        obtain ⟨w1, hw1⟩ : ∃ w1, w.drewN nq = w1 := ⟨_, rfl⟩
        rw [hw1] at hM1 ⊢
        have hB1 : Below base w w1 := hw1 ▸ below_drewN (Below.refl _ _) _
        have z1 : base ≤ w1.heap.size := hw1 ▸ hz
        replace c0 : w1.cell? ⟨b, off, none⟩ = some (.int .i64 0) := hw1 ▸ c0
        replace c1 : w1.cell? ⟨b, off + 1, none⟩ = some (.string letter) := hw1 ▸ c1
        clear hw1 hM d0 d1 d2 d3 d4 d5 d6 f3 f4 f5 f6 hRlt
        obtain ⟨d0, d1, d2, d3, d4, d5, d6⟩ := hM1.cells
        have fz := hM1.frozen
        have f3 := fz 3
        have f5 := fz 5
        have f6 := fz 6
        have hRlt := hM1.lt
        clear fz
        simp only at d0 d1 d2 d3 d4 d5 d6
        obtain ⟨i0, hi, hz0, hz1, hz2⟩ := info_parts Try.infoStruck
        have hbl1 : b < w1.heap.size := Nat.lt_of_lt_of_le hbr z1
        have hown := Lib.hid hM1.owns
        replace hM1 := Lib.hid hM1
        replace hB1 := Lib.hid hB1
        go_wp2_with fail
        refine wp_region_held_drew (S := fun w' => w'.cell? ⟨R, 3, none⟩ = some (.int .i64 at_) ∧ w'.cell? ⟨b, off + 1, none⟩ = some (.string letter)) (by kernel_rfl) ?_ (fun hHeld => ?_)
        · exact ⟨d3, c1⟩
        refine wpAnyH_take (i := 0) (v := ?v0) rfl (by kernel_rfl) (by kernel_rfl) (by kernel_rfl) (fun _ _ _ h => h) (Or.inl ⟨rfl, ?y0⟩) (by assumption) ?_
        case y0 => (intro w hSw; (try dsimp only at hSw); go_simp; first | done | with_reducible rfl)
        simp only [List.getElem_toArray, List.getElem_cons_succ, List.getElem_cons_zero, Act.put, List.setIfInBounds_toArray, List.set_cons_zero, List.set_cons_succ]
        refine wpAnyH_take (i := 1) (v := ?v1) rfl (by kernel_rfl) (by kernel_rfl) (by kernel_rfl) (fun _ _ _ h => h) (Or.inl ⟨rfl, ?y1⟩) (by assumption) ?_
        case y1 => (intro w hSw; (try dsimp only at hSw); go_simp; first | done | with_reducible rfl)
        simp only [List.getElem_toArray, List.getElem_cons_succ, List.getElem_cons_zero, Act.put, List.setIfInBounds_toArray, List.set_cons_zero, List.set_cons_succ]
        refine wpAnyH_take (i := 2) (v := ?v2) rfl (by kernel_rfl) (by kernel_rfl) (by kernel_rfl) (fun _ _ _ h => h) (Or.inl ⟨rfl, ?y2⟩) (by assumption) ?_
        case y2 => (intro w hSw; (try dsimp only at hSw); go_simp; first | done | with_reducible rfl)
        simp only [List.getElem_toArray, List.getElem_cons_succ, List.getElem_cons_zero, Act.put, List.setIfInBounds_toArray, List.set_cons_zero, List.set_cons_succ]
        refine wpAnyH_take (i := 3) (v := ?v3) rfl (by kernel_rfl) (by kernel_rfl) (by kernel_rfl) (fun _ _ _ h => h) (Or.inl ⟨rfl, ?y3⟩) (by assumption) ?_
        case y3 => (intro w hSw; (try dsimp only at hSw); go_simp; first | done | with_reducible rfl)
        simp only [List.getElem_toArray, List.getElem_cons_succ, List.getElem_cons_zero, Act.put, List.setIfInBounds_toArray, List.set_cons_zero, List.set_cons_succ]
        refine wpAnyH_take (i := 5) (v := ?v5) rfl (by kernel_rfl) (by kernel_rfl) (by kernel_rfl) (fun _ _ _ h => h) (Or.inl ⟨rfl, ?y5⟩) (by assumption) ?_
        case y5 => (intro w hSw; (try dsimp only at hSw); go_simp; first | done | with_reducible rfl)
        simp only [List.getElem_toArray, List.getElem_cons_succ, List.getElem_cons_zero, Act.put, List.setIfInBounds_toArray, List.set_cons_zero, List.set_cons_succ]
        refine wpAnyH_take (i := 6) (v := ?v6) rfl (by kernel_rfl) (by kernel_rfl) (by kernel_rfl) (fun _ _ _ h => h) (Or.inl ⟨rfl, ?y6⟩) (by assumption) ?_
        case y6 => (intro w hSw; (try dsimp only at hSw); go_simp; first | done | with_reducible rfl)
        simp only [List.getElem_toArray, List.getElem_cons_succ, List.getElem_cons_zero, Act.put, List.setIfInBounds_toArray, List.set_cons_zero, List.set_cons_succ]
        refine wpAnyH_take (i := 7) (v := ?v7) rfl (by kernel_rfl) (by kernel_rfl) (by kernel_rfl) (fun _ _ _ h => h) (Or.inl ⟨rfl, ?y7⟩) (by assumption) ?_
        case y7 => (intro w hSw; (try dsimp only at hSw); go_simp; first | done | with_reducible rfl)
        simp only [List.getElem_toArray, List.getElem_cons_succ, List.getElem_cons_zero, Act.put, List.setIfInBounds_toArray, List.set_cons_zero, List.set_cons_succ]
        refine wpAnyH_take (i := 8) (v := ?v8) rfl (by kernel_rfl) (by kernel_rfl) (by kernel_rfl) (fun _ _ _ h => h) (Or.inl ⟨rfl, ?y8⟩) (by assumption) ?_
        case y8 => (intro w hSw; (try dsimp only at hSw); go_simp; first | done | with_reducible rfl)
        simp only [List.getElem_toArray, List.getElem_cons_succ, List.getElem_cons_zero, Act.put, List.setIfInBounds_toArray, List.set_cons_zero, List.set_cons_succ]
        refine wpAnyH_take (i := 9) (v := ?v9) rfl (by kernel_rfl) (by kernel_rfl) (by kernel_rfl) (fun _ _ _ h => h) (Or.inl ⟨rfl, ?y9⟩) (by assumption) ?_
        case y9 => (intro w hSw; (try dsimp only at hSw); go_simp; first | done | with_reducible rfl)
        simp only [List.getElem_toArray, List.getElem_cons_succ, List.getElem_cons_zero, Act.put, List.setIfInBounds_toArray, List.set_cons_zero, List.set_cons_succ]
        refine wpAnyH_take (i := 10) (v := ?v10) rfl (by kernel_rfl) (by kernel_rfl) (by kernel_rfl) (fun _ _ _ h => h) (Or.inl ⟨rfl, ?y10⟩) (by assumption) ?_
        case y10 => (intro w hSw; (try dsimp only at hSw); go_simp; first | done | with_reducible rfl)
        simp only [List.getElem_toArray, List.getElem_cons_succ, List.getElem_cons_zero, Act.put, List.setIfInBounds_toArray, List.set_cons_zero, List.set_cons_succ]
        refine wpAnyH_take (i := 11) (v := ?v11) rfl (by kernel_rfl) (by kernel_rfl) (by kernel_rfl) (fun _ _ _ h => h) (Or.inl ⟨rfl, ?y11⟩) (by assumption) ?_
        case y11 => (intro w hSw; (try dsimp only at hSw); go_simp; first | done | with_reducible rfl)
        simp only [List.getElem_toArray, List.getElem_cons_succ, List.getElem_cons_zero, Act.put, List.setIfInBounds_toArray, List.set_cons_zero, List.set_cons_succ]
        refine wpAnyH_take (i := 12) (v := ?v12) rfl (by kernel_rfl) (by kernel_rfl) (by kernel_rfl) (fun _ _ _ h => h) (Or.inl ⟨rfl, ?y12⟩) (by assumption) ?_
        case y12 => (intro w hSw; (try dsimp only at hSw); go_simp; first | done | with_reducible rfl)
        simp only [List.getElem_toArray, List.getElem_cons_succ, List.getElem_cons_zero, Act.put, List.setIfInBounds_toArray, List.set_cons_zero, List.set_cons_succ]
        refine wpAnyH_take (i := 13) (v := ?v13) rfl (by kernel_rfl) (by kernel_rfl) (by kernel_rfl) (fun _ _ _ h => h) (Or.inl ⟨rfl, ?y13⟩) (by assumption) ?_
        case y13 => (intro w hSw; (try dsimp only at hSw); go_simp; first | done | with_reducible rfl)
        simp only [List.getElem_toArray, List.getElem_cons_succ, List.getElem_cons_zero, Act.put, List.setIfInBounds_toArray, List.set_cons_zero, List.set_cons_succ]
        refine wpAnyH_ready (rs := [4, 14]) (by kernel_rfl) (by simp) ?_
        refine AllReadyH.cons rfl (fun K hK => ?_) (AllReadyH.cons rfl (fun K hK => ?_) AllReadyH.nil)
        · go_simp
          refine hK.out _ _ ?_ (fun hHeld => ?_)
          · exact hHeld
          clear hK K
          try simp only [List.getElem_toArray, List.getElem_cons_succ, List.getElem_cons_zero, Act.put, List.setIfInBounds_toArray, List.set_cons_zero, List.set_cons_succ]
          refine wpAnyH_ready (rs := [14]) (by kernel_rfl) (by simp) ?_
          refine AllReadyH.cons rfl (fun K hK => ?_) AllReadyH.nil
          go_simp
          refine hK.out _ _ ?_ (fun hHeld => ?_)
          · exact ⟨(cell_on d3 _), (cell_on c1 _)⟩
          clear hK K
          try simp only [List.getElem_toArray, List.getElem_cons_succ, List.getElem_cons_zero, Act.put, List.setIfInBounds_toArray, List.set_cons_zero, List.set_cons_succ]
          refine wpAnyH_ready (rs := [15]) (by kernel_rfl) (by simp) ?_
          refine AllReadyH.cons rfl (fun K hK => ?_) AllReadyH.nil
          refine want_pos rfl ?_
          refine wp_append_own _ _ _ 26 rfl base 41 i0 _ 2 24 Try.underlying26 hi hz0 hz1 hz2 rfl (by decide) L out.length (out.flatMap StruckD.cells) rfl (World.ownsRow.alloc hown.out _) ⟨w1.heap.size, 0, none⟩ 1 1 [.int .i64 at_, .string letter] rfl rfl ?c1 ?c2 ?c3 ?c4 ?c5 ?_
          case c1 =>
            intro j u hj
            match j, hj with
            | 0, hj => cases hj; exact cell_new (w := w1) (by simp [Addr.add]) rfl
            | 1, hj => cases hj; exact cell_new (w := w1) (by simp [Addr.add]) rfl
            | j + 2, hj => simp at hj
          case c2 =>
            intro u hu
            simp only [List.mem_cons, List.not_mem_nil, or_false] at hu
            rcases hu with rfl | rfl <;> rfl
          case c3 => unfold maxLen; omega
          case c4 => omega
          case c5 =>
            show base ≤ (w1.alloc _).heap.size
            simp
            omega
          intro v' w3 hown3 hgr3 hnil
          obtain ⟨Av, cv, rfl⟩ := owns_form hown3
          have hgr : w1.grownBy w3 L.ownBlock := grown_trans (grown_below (below_a1 w1 _).drew _) hgr3
          have hneR : L.ownBlock ≠ some R := owns_apart hown.out hM1.out.2.1.choose_spec.1 (by decide)
          have hneb : L.ownBlock ≠ some b := fun e => by have := owns_ge hown.out e; omega
          have hS3 : w3.cell? ⟨R, 3, none⟩ = some (.int .i64 at_) ∧ w3.cell? ⟨b, off + 1, none⟩ = some (.string letter) := ⟨hgr.cell d3 hneR.symm, hgr.cell c1 hneb.symm⟩
          refine hK.out _ _ ?_ (fun hHeld => ?_)
          · exact hS3
          clear hK K
          try simp only [List.getElem_toArray, List.getElem_cons_succ, List.getElem_cons_zero, Act.put, List.setIfInBounds_toArray, List.set_cons_zero, List.set_cons_succ]
          refine wpAnyH_take (i := 16) (v := ?v16) rfl (by kernel_rfl) (by kernel_rfl) (by kernel_rfl) (fun _ _ _ h => h) (Or.inl ⟨rfl, ?y16⟩) (by assumption) ?_
          case y16 => (intro w hSw; (try dsimp only at hSw); go_simp; first | done | with_reducible rfl)
          simp only [List.getElem_toArray, List.getElem_cons_succ, List.getElem_cons_zero, Act.put, List.setIfInBounds_toArray, List.set_cons_zero, List.set_cons_succ]
          refine wpAnyH_take (i := 17) (v := ?v17) rfl (by kernel_rfl) (by kernel_rfl) (by kernel_rfl) (fun _ _ _ h => h) (Or.inl ⟨rfl, ?y17⟩) (by assumption) ?_
          case y17 => (intro w hSw; (try dsimp only at hSw); go_simp; first | done | with_reducible rfl)
          simp only [List.getElem_toArray, List.getElem_cons_succ, List.getElem_cons_zero, Act.put, List.setIfInBounds_toArray, List.set_cons_zero, List.set_cons_succ]
          have e6 : w3.cell? ⟨R, 6, none⟩ = some L := hgr.cell d6 hneR.symm
          have k6 : w3.frozen? ⟨R, 6, none⟩ = false := (hM1.out.2.1.choose_spec.1.of_block (hgr.block R hRlt hneR.symm)).frozen 6
          have hM2 := Lib.hid (hM1.out.setList (x := ⟨at_, letter⟩) hgr hown3)
          have hB2 := Lib.hid ((Below.grown hB1.out hgr z1 (fun j hj => owns_ge hown.out hj)).setCell hRb (.slice Av (out.length + 1) cv) (p := ⟨R, 6, none⟩))
          clear hown3 hgr3 hnil hgr hS3
          refine wpAnyH_ready (rs := [18]) (by kernel_rfl) (by simp) ?_
          refine AllReadyH.cons rfl (fun K hK => ?_) AllReadyH.nil
          go_simp
          refine hK.out _ _ ?_ (fun hHeld => ?_)
          · exact ⟨(World.cell?_setCell_other _ _ _ _ (by simp)).trans hHeld.1, (World.cell?_setCell_other _ _ _ _ (by simp)).trans hHeld.2⟩
          clear hK K
          try simp only [List.getElem_toArray, List.getElem_cons_succ, List.getElem_cons_zero, Act.put, List.setIfInBounds_toArray, List.set_cons_zero, List.set_cons_succ]
          refine wpAnyH_done (by kernel_rfl) ?_ _
          generalize w3.setCell ⟨R, 6, none⟩ (.slice Av (out.length + 1) cv) = w2 at *
          clear d0 d1 d2 d3 d4 d5 d6 f3 f5 f6 hRlt
          obtain ⟨d0, d1, d2, d3, d4, d5, d6⟩ := hM2.out.cells
          have f3 := hM2.out.frozen 3
          have f5 := hM2.out.frozen 5
          have hRlt := hM2.out.lt
          simp only at d0 d1 d2 d3 d4 d5 d6
          by_cases q1 : at_ < bell
          · have q1' : decide (at_ < bell) = true := decide_eq_true q1
            by_cases q2 : bell ≤ at_ + 2
            · have q2' : decide (bell ≤ at_ + 2) = true := decide_eq_true q2
              have hact : Hid (actS ⟨left, right, bell⟩ ⟨at_, true, bells, out⟩ ⟨0, letter⟩ = some ⟨at_ + 2, true, bells + 1, out ++ [⟨at_, letter⟩]⟩) := Lib.hid (by
                have e1 : ¬ (300 < at_ + 2 ∨ (true = false ∧ right < at_ + 2)) := by first | omega | (intro h; rcases h with h | ⟨h, h'⟩; omega; first | cases h; done | omega)
                have e2 : (if at_ < bell ∧ bell ≤ at_ + 2 then (1 : Nat) else 0) = 1 := by rw [if_pos ⟨q1, q2⟩]
                simp only [actS]
                rw [if_pos (by decide), hst.out, if_neg e1, e2]
                simp)
              clear q1 q2
              go_wp2_with fail
              go_quiet (fail)
              go_wp2
              go_ret
              exact ActOut.yes hact.out (((below_drewN hB2.out _).setCell hRb _).setCell hRb _) ⟨_, ((hM2.out.drewN _).setBells (bells + 1) _ (by simp)).setAt _⟩
            · exfalso; omega
          · have q1' : decide (at_ < bell) = false := decide_eq_false q1
            have hact : Hid (actS ⟨left, right, bell⟩ ⟨at_, true, bells, out⟩ ⟨0, letter⟩ = some ⟨at_ + 2, true, bells + 0, out ++ [⟨at_, letter⟩]⟩) := Lib.hid (by
              have e1 : ¬ (300 < at_ + 2 ∨ (true = false ∧ right < at_ + 2)) := by first | omega | (intro h; rcases h with h | ⟨h, h'⟩; omega; first | cases h; done | omega)
              have e2 : (if at_ < bell ∧ bell ≤ at_ + 2 then (1 : Nat) else 0) = 0 := by rw [if_neg (by omega)]
              simp only [actS]
              rw [if_pos (by decide), hst.out, if_neg e1, e2]
              simp)
            clear q1
            go_wp2_with fail
            go_quiet (fail)
            go_wp2
            go_ret
            exact ActOut.yes hact.out ((below_drewN hB2.out _).setCell hRb _) ⟨_, (hM2.out.drewN _).setAt _⟩
        · go_simp
          refine hK.out _ _ ?_ (fun hHeld => ?_)
          · exact ⟨(cell_on hHeld.1 _), (cell_on hHeld.2 _)⟩
          clear hK K
          try simp only [List.getElem_toArray, List.getElem_cons_succ, List.getElem_cons_zero, Act.put, List.setIfInBounds_toArray, List.set_cons_zero, List.set_cons_succ]
          refine wpAnyH_ready (rs := [4]) (by kernel_rfl) (by simp) ?_
          refine AllReadyH.cons rfl (fun K hK => ?_) AllReadyH.nil
          go_simp
          refine hK.out _ _ ?_ (fun hHeld => ?_)
          · exact hHeld
          clear hK K
          try simp only [List.getElem_toArray, List.getElem_cons_succ, List.getElem_cons_zero, Act.put, List.setIfInBounds_toArray, List.set_cons_zero, List.set_cons_succ]
          refine wpAnyH_ready (rs := [15]) (by kernel_rfl) (by simp) ?_
          refine AllReadyH.cons rfl (fun K hK => ?_) AllReadyH.nil
          refine want_pos rfl ?_
          refine wp_append_own _ _ _ 26 rfl base 41 i0 _ 2 24 Try.underlying26 hi hz0 hz1 hz2 rfl (by decide) L out.length (out.flatMap StruckD.cells) rfl (World.ownsRow.alloc hown.out _) ⟨w1.heap.size, 0, none⟩ 1 1 [.int .i64 at_, .string letter] rfl rfl ?c1 ?c2 ?c3 ?c4 ?c5 ?_
          case c1 =>
            intro j u hj
            match j, hj with
            | 0, hj => cases hj; exact cell_new (w := w1) (by simp [Addr.add]) rfl
            | 1, hj => cases hj; exact cell_new (w := w1) (by simp [Addr.add]) rfl
            | j + 2, hj => simp at hj
          case c2 =>
            intro u hu
            simp only [List.mem_cons, List.not_mem_nil, or_false] at hu
            rcases hu with rfl | rfl <;> rfl
          case c3 => unfold maxLen; omega
          case c4 => omega
          case c5 =>
            show base ≤ (w1.alloc _).heap.size
            simp
            omega
          intro v' w3 hown3 hgr3 hnil
          obtain ⟨Av, cv, rfl⟩ := owns_form hown3
          have hgr : w1.grownBy w3 L.ownBlock := grown_trans (grown_below (below_a1 w1 _).drew _) hgr3
          have hneR : L.ownBlock ≠ some R := owns_apart hown.out hM1.out.2.1.choose_spec.1 (by decide)
          have hneb : L.ownBlock ≠ some b := fun e => by have := owns_ge hown.out e; omega
          have hS3 : w3.cell? ⟨R, 3, none⟩ = some (.int .i64 at_) ∧ w3.cell? ⟨b, off + 1, none⟩ = some (.string letter) := ⟨hgr.cell d3 hneR.symm, hgr.cell c1 hneb.symm⟩
          refine hK.out _ _ ?_ (fun hHeld => ?_)
          · exact hS3
          clear hK K
          try simp only [List.getElem_toArray, List.getElem_cons_succ, List.getElem_cons_zero, Act.put, List.setIfInBounds_toArray, List.set_cons_zero, List.set_cons_succ]
          refine wpAnyH_take (i := 16) (v := ?v16) rfl (by kernel_rfl) (by kernel_rfl) (by kernel_rfl) (fun _ _ _ h => h) (Or.inl ⟨rfl, ?y16⟩) (by assumption) ?_
          case y16 => (intro w hSw; (try dsimp only at hSw); go_simp; first | done | with_reducible rfl)
          simp only [List.getElem_toArray, List.getElem_cons_succ, List.getElem_cons_zero, Act.put, List.setIfInBounds_toArray, List.set_cons_zero, List.set_cons_succ]
          refine wpAnyH_take (i := 17) (v := ?v17) rfl (by kernel_rfl) (by kernel_rfl) (by kernel_rfl) (fun _ _ _ h => h) (Or.inl ⟨rfl, ?y17⟩) (by assumption) ?_
          case y17 => (intro w hSw; (try dsimp only at hSw); go_simp; first | done | with_reducible rfl)
          simp only [List.getElem_toArray, List.getElem_cons_succ, List.getElem_cons_zero, Act.put, List.setIfInBounds_toArray, List.set_cons_zero, List.set_cons_succ]
          have e6 : w3.cell? ⟨R, 6, none⟩ = some L := hgr.cell d6 hneR.symm
          have k6 : w3.frozen? ⟨R, 6, none⟩ = false := (hM1.out.2.1.choose_spec.1.of_block (hgr.block R hRlt hneR.symm)).frozen 6
          have hM2 := Lib.hid (hM1.out.setList (x := ⟨at_, letter⟩) hgr hown3)
          have hB2 := Lib.hid ((Below.grown hB1.out hgr z1 (fun j hj => owns_ge hown.out hj)).setCell hRb (.slice Av (out.length + 1) cv) (p := ⟨R, 6, none⟩))
          clear hown3 hgr3 hnil hgr hS3
          refine wpAnyH_ready (rs := [18]) (by kernel_rfl) (by simp) ?_
          refine AllReadyH.cons rfl (fun K hK => ?_) AllReadyH.nil
          go_simp
          refine hK.out _ _ ?_ (fun hHeld => ?_)
          · exact ⟨(World.cell?_setCell_other _ _ _ _ (by simp)).trans hHeld.1, (World.cell?_setCell_other _ _ _ _ (by simp)).trans hHeld.2⟩
          clear hK K
          try simp only [List.getElem_toArray, List.getElem_cons_succ, List.getElem_cons_zero, Act.put, List.setIfInBounds_toArray, List.set_cons_zero, List.set_cons_succ]
          refine wpAnyH_done (by kernel_rfl) ?_ _
          generalize w3.setCell ⟨R, 6, none⟩ (.slice Av (out.length + 1) cv) = w2 at *
          clear d0 d1 d2 d3 d4 d5 d6 f3 f5 f6 hRlt
          obtain ⟨d0, d1, d2, d3, d4, d5, d6⟩ := hM2.out.cells
          have f3 := hM2.out.frozen 3
          have f5 := hM2.out.frozen 5
          have hRlt := hM2.out.lt
          simp only at d0 d1 d2 d3 d4 d5 d6
          by_cases q1 : at_ < bell
          · have q1' : decide (at_ < bell) = true := decide_eq_true q1
            by_cases q2 : bell ≤ at_ + 2
            · have q2' : decide (bell ≤ at_ + 2) = true := decide_eq_true q2
              have hact : Hid (actS ⟨left, right, bell⟩ ⟨at_, true, bells, out⟩ ⟨0, letter⟩ = some ⟨at_ + 2, true, bells + 1, out ++ [⟨at_, letter⟩]⟩) := Lib.hid (by
                have e1 : ¬ (300 < at_ + 2 ∨ (true = false ∧ right < at_ + 2)) := by first | omega | (intro h; rcases h with h | ⟨h, h'⟩; omega; first | cases h; done | omega)
                have e2 : (if at_ < bell ∧ bell ≤ at_ + 2 then (1 : Nat) else 0) = 1 := by rw [if_pos ⟨q1, q2⟩]
                simp only [actS]
                rw [if_pos (by decide), hst.out, if_neg e1, e2]
                simp)
              clear q1 q2
              go_wp2_with fail
              go_quiet (fail)
              go_wp2
              go_ret
              exact ActOut.yes hact.out (((below_drewN hB2.out _).setCell hRb _).setCell hRb _) ⟨_, ((hM2.out.drewN _).setBells (bells + 1) _ (by simp)).setAt _⟩
            · exfalso; omega
          · have q1' : decide (at_ < bell) = false := decide_eq_false q1
            have hact : Hid (actS ⟨left, right, bell⟩ ⟨at_, true, bells, out⟩ ⟨0, letter⟩ = some ⟨at_ + 2, true, bells + 0, out ++ [⟨at_, letter⟩]⟩) := Lib.hid (by
              have e1 : ¬ (300 < at_ + 2 ∨ (true = false ∧ right < at_ + 2)) := by first | omega | (intro h; rcases h with h | ⟨h, h'⟩; omega; first | cases h; done | omega)
              have e2 : (if at_ < bell ∧ bell ≤ at_ + 2 then (1 : Nat) else 0) = 0 := by rw [if_neg (by omega)]
              simp only [actS]
              rw [if_pos (by decide), hst.out, if_neg e1, e2]
              simp)
            clear q1
            go_wp2_with fail
            go_quiet (fail)
            go_wp2
            go_ret
            exact ActOut.yes hact.out ((below_drewN hB2.out _).setCell hRb _) ⟨_, (hM2.out.drewN _).setAt _⟩
  · have g1 : decide (right < at_ + 2) = false := decide_eq_false hR
    have hX : ¬ 300 < at_ + 2 := by omega
    have g2 : decide (300 < at_ + 2) = false := decide_eq_false hX
    go_enter Try.func42, Try.ntmps42
    go_wp2_with fail
    refine (step_spec 0 hst.out _).mono ?_
    rintro e w' ⟨rfl, rfl⟩
    go_wp2_with fail
    go_quiet (fail)
    have hM1 := hM.out.drewN nq
    obtain ⟨w1, hw1⟩ : ∃ w1, w.drewN nq = w1 := ⟨_, rfl⟩
    rw [hw1] at hM1 ⊢
    have hB1 : Below base w w1 := hw1 ▸ below_drewN (Below.refl _ _) _
    have z1 : base ≤ w1.heap.size := hw1 ▸ hz
    replace c0 : w1.cell? ⟨b, off, none⟩ = some (.int .i64 0) := hw1 ▸ c0
    replace c1 : w1.cell? ⟨b, off + 1, none⟩ = some (.string letter) := hw1 ▸ c1
    clear hw1 hM d0 d1 d2 d3 d4 d5 d6 f3 f4 f5 f6 hRlt
    obtain ⟨d0, d1, d2, d3, d4, d5, d6⟩ := hM1.cells
    have fz := hM1.frozen
    have f3 := fz 3
    have f5 := fz 5
    have f6 := fz 6
    have hRlt := hM1.lt
    clear fz
    simp only at d0 d1 d2 d3 d4 d5 d6
    obtain ⟨i0, hi, hz0, hz1, hz2⟩ := info_parts Try.infoStruck
    have hbl1 : b < w1.heap.size := Nat.lt_of_lt_of_le hbr z1
    have hown := Lib.hid hM1.owns
    replace hM1 := Lib.hid hM1
    replace hB1 := Lib.hid hB1
    go_wp2_with fail
    refine wp_region_held_drew (S := fun w' => w'.cell? ⟨R, 3, none⟩ = some (.int .i64 at_) ∧ w'.cell? ⟨b, off + 1, none⟩ = some (.string letter)) (by kernel_rfl) ?_ (fun hHeld => ?_)
    · exact ⟨d3, c1⟩
    refine wpAnyH_take (i := 0) (v := ?v0) rfl (by kernel_rfl) (by kernel_rfl) (by kernel_rfl) (fun _ _ _ h => h) (Or.inl ⟨rfl, ?y0⟩) (by assumption) ?_
    case y0 => (intro w hSw; (try dsimp only at hSw); go_simp; first | done | with_reducible rfl)
    simp only [List.getElem_toArray, List.getElem_cons_succ, List.getElem_cons_zero, Act.put, List.setIfInBounds_toArray, List.set_cons_zero, List.set_cons_succ]
    refine wpAnyH_take (i := 1) (v := ?v1) rfl (by kernel_rfl) (by kernel_rfl) (by kernel_rfl) (fun _ _ _ h => h) (Or.inl ⟨rfl, ?y1⟩) (by assumption) ?_
    case y1 => (intro w hSw; (try dsimp only at hSw); go_simp; first | done | with_reducible rfl)
    simp only [List.getElem_toArray, List.getElem_cons_succ, List.getElem_cons_zero, Act.put, List.setIfInBounds_toArray, List.set_cons_zero, List.set_cons_succ]
    refine wpAnyH_take (i := 2) (v := ?v2) rfl (by kernel_rfl) (by kernel_rfl) (by kernel_rfl) (fun _ _ _ h => h) (Or.inl ⟨rfl, ?y2⟩) (by assumption) ?_
    case y2 => (intro w hSw; (try dsimp only at hSw); go_simp; first | done | with_reducible rfl)
    simp only [List.getElem_toArray, List.getElem_cons_succ, List.getElem_cons_zero, Act.put, List.setIfInBounds_toArray, List.set_cons_zero, List.set_cons_succ]
    refine wpAnyH_take (i := 3) (v := ?v3) rfl (by kernel_rfl) (by kernel_rfl) (by kernel_rfl) (fun _ _ _ h => h) (Or.inl ⟨rfl, ?y3⟩) (by assumption) ?_
    case y3 => (intro w hSw; (try dsimp only at hSw); go_simp; first | done | with_reducible rfl)
    simp only [List.getElem_toArray, List.getElem_cons_succ, List.getElem_cons_zero, Act.put, List.setIfInBounds_toArray, List.set_cons_zero, List.set_cons_succ]
    refine wpAnyH_take (i := 5) (v := ?v5) rfl (by kernel_rfl) (by kernel_rfl) (by kernel_rfl) (fun _ _ _ h => h) (Or.inl ⟨rfl, ?y5⟩) (by assumption) ?_
    case y5 => (intro w hSw; (try dsimp only at hSw); go_simp; first | done | with_reducible rfl)
    simp only [List.getElem_toArray, List.getElem_cons_succ, List.getElem_cons_zero, Act.put, List.setIfInBounds_toArray, List.set_cons_zero, List.set_cons_succ]
    refine wpAnyH_take (i := 6) (v := ?v6) rfl (by kernel_rfl) (by kernel_rfl) (by kernel_rfl) (fun _ _ _ h => h) (Or.inl ⟨rfl, ?y6⟩) (by assumption) ?_
    case y6 => (intro w hSw; (try dsimp only at hSw); go_simp; first | done | with_reducible rfl)
    simp only [List.getElem_toArray, List.getElem_cons_succ, List.getElem_cons_zero, Act.put, List.setIfInBounds_toArray, List.set_cons_zero, List.set_cons_succ]
    refine wpAnyH_take (i := 7) (v := ?v7) rfl (by kernel_rfl) (by kernel_rfl) (by kernel_rfl) (fun _ _ _ h => h) (Or.inl ⟨rfl, ?y7⟩) (by assumption) ?_
    case y7 => (intro w hSw; (try dsimp only at hSw); go_simp; first | done | with_reducible rfl)
    simp only [List.getElem_toArray, List.getElem_cons_succ, List.getElem_cons_zero, Act.put, List.setIfInBounds_toArray, List.set_cons_zero, List.set_cons_succ]
    refine wpAnyH_take (i := 8) (v := ?v8) rfl (by kernel_rfl) (by kernel_rfl) (by kernel_rfl) (fun _ _ _ h => h) (Or.inl ⟨rfl, ?y8⟩) (by assumption) ?_
    case y8 => (intro w hSw; (try dsimp only at hSw); go_simp; first | done | with_reducible rfl)
    simp only [List.getElem_toArray, List.getElem_cons_succ, List.getElem_cons_zero, Act.put, List.setIfInBounds_toArray, List.set_cons_zero, List.set_cons_succ]
    refine wpAnyH_take (i := 9) (v := ?v9) rfl (by kernel_rfl) (by kernel_rfl) (by kernel_rfl) (fun _ _ _ h => h) (Or.inl ⟨rfl, ?y9⟩) (by assumption) ?_
    case y9 => (intro w hSw; (try dsimp only at hSw); go_simp; first | done | with_reducible rfl)
    simp only [List.getElem_toArray, List.getElem_cons_succ, List.getElem_cons_zero, Act.put, List.setIfInBounds_toArray, List.set_cons_zero, List.set_cons_succ]
    refine wpAnyH_take (i := 10) (v := ?v10) rfl (by kernel_rfl) (by kernel_rfl) (by kernel_rfl) (fun _ _ _ h => h) (Or.inl ⟨rfl, ?y10⟩) (by assumption) ?_
    case y10 => (intro w hSw; (try dsimp only at hSw); go_simp; first | done | with_reducible rfl)
    simp only [List.getElem_toArray, List.getElem_cons_succ, List.getElem_cons_zero, Act.put, List.setIfInBounds_toArray, List.set_cons_zero, List.set_cons_succ]
    refine wpAnyH_take (i := 11) (v := ?v11) rfl (by kernel_rfl) (by kernel_rfl) (by kernel_rfl) (fun _ _ _ h => h) (Or.inl ⟨rfl, ?y11⟩) (by assumption) ?_
    case y11 => (intro w hSw; (try dsimp only at hSw); go_simp; first | done | with_reducible rfl)
    simp only [List.getElem_toArray, List.getElem_cons_succ, List.getElem_cons_zero, Act.put, List.setIfInBounds_toArray, List.set_cons_zero, List.set_cons_succ]
    refine wpAnyH_take (i := 12) (v := ?v12) rfl (by kernel_rfl) (by kernel_rfl) (by kernel_rfl) (fun _ _ _ h => h) (Or.inl ⟨rfl, ?y12⟩) (by assumption) ?_
    case y12 => (intro w hSw; (try dsimp only at hSw); go_simp; first | done | with_reducible rfl)
    simp only [List.getElem_toArray, List.getElem_cons_succ, List.getElem_cons_zero, Act.put, List.setIfInBounds_toArray, List.set_cons_zero, List.set_cons_succ]
    refine wpAnyH_take (i := 13) (v := ?v13) rfl (by kernel_rfl) (by kernel_rfl) (by kernel_rfl) (fun _ _ _ h => h) (Or.inl ⟨rfl, ?y13⟩) (by assumption) ?_
    case y13 => (intro w hSw; (try dsimp only at hSw); go_simp; first | done | with_reducible rfl)
    simp only [List.getElem_toArray, List.getElem_cons_succ, List.getElem_cons_zero, Act.put, List.setIfInBounds_toArray, List.set_cons_zero, List.set_cons_succ]
    refine wpAnyH_ready (rs := [4, 14]) (by kernel_rfl) (by simp) ?_
    refine AllReadyH.cons rfl (fun K hK => ?_) (AllReadyH.cons rfl (fun K hK => ?_) AllReadyH.nil)
    · go_simp
      refine hK.out _ _ ?_ (fun hHeld => ?_)
      · exact hHeld
      clear hK K
      try simp only [List.getElem_toArray, List.getElem_cons_succ, List.getElem_cons_zero, Act.put, List.setIfInBounds_toArray, List.set_cons_zero, List.set_cons_succ]
      refine wpAnyH_ready (rs := [14]) (by kernel_rfl) (by simp) ?_
      refine AllReadyH.cons rfl (fun K hK => ?_) AllReadyH.nil
      go_simp
      refine hK.out _ _ ?_ (fun hHeld => ?_)
      · exact ⟨(cell_on d3 _), (cell_on c1 _)⟩
      clear hK K
      try simp only [List.getElem_toArray, List.getElem_cons_succ, List.getElem_cons_zero, Act.put, List.setIfInBounds_toArray, List.set_cons_zero, List.set_cons_succ]
      refine wpAnyH_ready (rs := [15]) (by kernel_rfl) (by simp) ?_
      refine AllReadyH.cons rfl (fun K hK => ?_) AllReadyH.nil
      refine want_pos rfl ?_
      refine wp_append_own _ _ _ 26 rfl base 41 i0 _ 2 24 Try.underlying26 hi hz0 hz1 hz2 rfl (by decide) L out.length (out.flatMap StruckD.cells) rfl (World.ownsRow.alloc hown.out _) ⟨w1.heap.size, 0, none⟩ 1 1 [.int .i64 at_, .string letter] rfl rfl ?c1 ?c2 ?c3 ?c4 ?c5 ?_
      case c1 =>
        intro j u hj
        match j, hj with
        | 0, hj => cases hj; exact cell_new (w := w1) (by simp [Addr.add]) rfl
        | 1, hj => cases hj; exact cell_new (w := w1) (by simp [Addr.add]) rfl
        | j + 2, hj => simp at hj
      case c2 =>
        intro u hu
        simp only [List.mem_cons, List.not_mem_nil, or_false] at hu
        rcases hu with rfl | rfl <;> rfl
      case c3 => unfold maxLen; omega
      case c4 => omega
      case c5 =>
        show base ≤ (w1.alloc _).heap.size
        simp
        omega
      intro v' w3 hown3 hgr3 hnil
      obtain ⟨Av, cv, rfl⟩ := owns_form hown3
      have hgr : w1.grownBy w3 L.ownBlock := grown_trans (grown_below (below_a1 w1 _).drew _) hgr3
      have hneR : L.ownBlock ≠ some R := owns_apart hown.out hM1.out.2.1.choose_spec.1 (by decide)
      have hneb : L.ownBlock ≠ some b := fun e => by have := owns_ge hown.out e; omega
      have hS3 : w3.cell? ⟨R, 3, none⟩ = some (.int .i64 at_) ∧ w3.cell? ⟨b, off + 1, none⟩ = some (.string letter) := ⟨hgr.cell d3 hneR.symm, hgr.cell c1 hneb.symm⟩
      refine hK.out _ _ ?_ (fun hHeld => ?_)
      · exact hS3
      clear hK K
      try simp only [List.getElem_toArray, List.getElem_cons_succ, List.getElem_cons_zero, Act.put, List.setIfInBounds_toArray, List.set_cons_zero, List.set_cons_succ]
      refine wpAnyH_take (i := 16) (v := ?v16) rfl (by kernel_rfl) (by kernel_rfl) (by kernel_rfl) (fun _ _ _ h => h) (Or.inl ⟨rfl, ?y16⟩) (by assumption) ?_
      case y16 => (intro w hSw; (try dsimp only at hSw); go_simp; first | done | with_reducible rfl)
      simp only [List.getElem_toArray, List.getElem_cons_succ, List.getElem_cons_zero, Act.put, List.setIfInBounds_toArray, List.set_cons_zero, List.set_cons_succ]
      refine wpAnyH_take (i := 17) (v := ?v17) rfl (by kernel_rfl) (by kernel_rfl) (by kernel_rfl) (fun _ _ _ h => h) (Or.inl ⟨rfl, ?y17⟩) (by assumption) ?_
      case y17 => (intro w hSw; (try dsimp only at hSw); go_simp; first | done | with_reducible rfl)
      simp only [List.getElem_toArray, List.getElem_cons_succ, List.getElem_cons_zero, Act.put, List.setIfInBounds_toArray, List.set_cons_zero, List.set_cons_succ]
      have e6 : w3.cell? ⟨R, 6, none⟩ = some L := hgr.cell d6 hneR.symm
      have k6 : w3.frozen? ⟨R, 6, none⟩ = false := (hM1.out.2.1.choose_spec.1.of_block (hgr.block R hRlt hneR.symm)).frozen 6
      have hM2 := Lib.hid (hM1.out.setList (x := ⟨at_, letter⟩) hgr hown3)
      have hB2 := Lib.hid ((Below.grown hB1.out hgr z1 (fun j hj => owns_ge hown.out hj)).setCell hRb (.slice Av (out.length + 1) cv) (p := ⟨R, 6, none⟩))
      clear hown3 hgr3 hnil hgr hS3
      refine wpAnyH_ready (rs := [18]) (by kernel_rfl) (by simp) ?_
      refine AllReadyH.cons rfl (fun K hK => ?_) AllReadyH.nil
      go_simp
      refine hK.out _ _ ?_ (fun hHeld => ?_)
      · exact ⟨(World.cell?_setCell_other _ _ _ _ (by simp)).trans hHeld.1, (World.cell?_setCell_other _ _ _ _ (by simp)).trans hHeld.2⟩
      clear hK K
      try simp only [List.getElem_toArray, List.getElem_cons_succ, List.getElem_cons_zero, Act.put, List.setIfInBounds_toArray, List.set_cons_zero, List.set_cons_succ]
      refine wpAnyH_done (by kernel_rfl) ?_ _
      generalize w3.setCell ⟨R, 6, none⟩ (.slice Av (out.length + 1) cv) = w2 at *
      clear d0 d1 d2 d3 d4 d5 d6 f3 f5 f6 hRlt
      obtain ⟨d0, d1, d2, d3, d4, d5, d6⟩ := hM2.out.cells
      have f3 := hM2.out.frozen 3
      have f5 := hM2.out.frozen 5
      have hRlt := hM2.out.lt
      simp only at d0 d1 d2 d3 d4 d5 d6
      by_cases q1 : at_ < bell
      · have q1' : decide (at_ < bell) = true := decide_eq_true q1
        by_cases q2 : bell ≤ at_ + 2
        · have q2' : decide (bell ≤ at_ + 2) = true := decide_eq_true q2
          have hact : Hid (actS ⟨left, right, bell⟩ ⟨at_, free, bells, out⟩ ⟨0, letter⟩ = some ⟨at_ + 2, free, bells + 1, out ++ [⟨at_, letter⟩]⟩) := Lib.hid (by
            have e1 : ¬ (300 < at_ + 2 ∨ (free = false ∧ right < at_ + 2)) := by first | omega | (intro h; rcases h with h | ⟨h, h'⟩; omega; first | cases h; done | omega)
            have e2 : (if at_ < bell ∧ bell ≤ at_ + 2 then (1 : Nat) else 0) = 1 := by rw [if_pos ⟨q1, q2⟩]
            simp only [actS]
            rw [if_pos (by decide), hst.out, if_neg e1, e2]
            simp)
          clear q1 q2
          go_wp2_with fail
          go_quiet (fail)
          go_wp2
          go_ret
          exact ActOut.yes hact.out (((below_drewN hB2.out _).setCell hRb _).setCell hRb _) ⟨_, ((hM2.out.drewN _).setBells (bells + 1) _ (by simp)).setAt _⟩
        · have q2' : decide (bell ≤ at_ + 2) = false := decide_eq_false q2
          have hact : Hid (actS ⟨left, right, bell⟩ ⟨at_, free, bells, out⟩ ⟨0, letter⟩ = some ⟨at_ + 2, free, bells + 0, out ++ [⟨at_, letter⟩]⟩) := Lib.hid (by
            have e1 : ¬ (300 < at_ + 2 ∨ (free = false ∧ right < at_ + 2)) := by first | omega | (intro h; rcases h with h | ⟨h, h'⟩; omega; first | cases h; done | omega)
            have e2 : (if at_ < bell ∧ bell ≤ at_ + 2 then (1 : Nat) else 0) = 0 := by rw [if_neg (by omega)]
            simp only [actS]
            rw [if_pos (by decide), hst.out, if_neg e1, e2]
            simp)
          clear q1
          go_wp2_with fail
          go_quiet (fail)
          go_wp2
          go_ret
          exact ActOut.yes hact.out ((below_drewN hB2.out _).setCell hRb _) ⟨_, (hM2.out.drewN _).setAt _⟩
      · have q1' : decide (at_ < bell) = false := decide_eq_false q1
        have hact : Hid (actS ⟨left, right, bell⟩ ⟨at_, free, bells, out⟩ ⟨0, letter⟩ = some ⟨at_ + 2, free, bells + 0, out ++ [⟨at_, letter⟩]⟩) := Lib.hid (by
          have e1 : ¬ (300 < at_ + 2 ∨ (free = false ∧ right < at_ + 2)) := by first | omega | (intro h; rcases h with h | ⟨h, h'⟩; omega; first | cases h; done | omega)
          have e2 : (if at_ < bell ∧ bell ≤ at_ + 2 then (1 : Nat) else 0) = 0 := by rw [if_neg (by omega)]
          simp only [actS]
          rw [if_pos (by decide), hst.out, if_neg e1, e2]
          simp)
        clear q1
        go_wp2_with fail
        go_quiet (fail)
        go_wp2
        go_ret
        exact ActOut.yes hact.out ((below_drewN hB2.out _).setCell hRb _) ⟨_, (hM2.out.drewN _).setAt _⟩
    · go_simp
      refine hK.out _ _ ?_ (fun hHeld => ?_)
      · exact ⟨(cell_on hHeld.1 _), (cell_on hHeld.2 _)⟩
      clear hK K
      try simp only [List.getElem_toArray, List.getElem_cons_succ, List.getElem_cons_zero, Act.put, List.setIfInBounds_toArray, List.set_cons_zero, List.set_cons_succ]
      refine wpAnyH_ready (rs := [4]) (by kernel_rfl) (by simp) ?_
      refine AllReadyH.cons rfl (fun K hK => ?_) AllReadyH.nil
      go_simp
      refine hK.out _ _ ?_ (fun hHeld => ?_)
      · exact hHeld
      clear hK K
      try simp only [List.getElem_toArray, List.getElem_cons_succ, List.getElem_cons_zero, Act.put, List.setIfInBounds_toArray, List.set_cons_zero, List.set_cons_succ]
      refine wpAnyH_ready (rs := [15]) (by kernel_rfl) (by simp) ?_
      refine AllReadyH.cons rfl (fun K hK => ?_) AllReadyH.nil
      refine want_pos rfl ?_
      refine wp_append_own _ _ _ 26 rfl base 41 i0 _ 2 24 Try.underlying26 hi hz0 hz1 hz2 rfl (by decide) L out.length (out.flatMap StruckD.cells) rfl (World.ownsRow.alloc hown.out _) ⟨w1.heap.size, 0, none⟩ 1 1 [.int .i64 at_, .string letter] rfl rfl ?c1 ?c2 ?c3 ?c4 ?c5 ?_
      case c1 =>
        intro j u hj
        match j, hj with
        | 0, hj => cases hj; exact cell_new (w := w1) (by simp [Addr.add]) rfl
        | 1, hj => cases hj; exact cell_new (w := w1) (by simp [Addr.add]) rfl
        | j + 2, hj => simp at hj
      case c2 =>
        intro u hu
        simp only [List.mem_cons, List.not_mem_nil, or_false] at hu
        rcases hu with rfl | rfl <;> rfl
      case c3 => unfold maxLen; omega
      case c4 => omega
      case c5 =>
        show base ≤ (w1.alloc _).heap.size
        simp
        omega
      intro v' w3 hown3 hgr3 hnil
      obtain ⟨Av, cv, rfl⟩ := owns_form hown3
      have hgr : w1.grownBy w3 L.ownBlock := grown_trans (grown_below (below_a1 w1 _).drew _) hgr3
      have hneR : L.ownBlock ≠ some R := owns_apart hown.out hM1.out.2.1.choose_spec.1 (by decide)
      have hneb : L.ownBlock ≠ some b := fun e => by have := owns_ge hown.out e; omega
      have hS3 : w3.cell? ⟨R, 3, none⟩ = some (.int .i64 at_) ∧ w3.cell? ⟨b, off + 1, none⟩ = some (.string letter) := ⟨hgr.cell d3 hneR.symm, hgr.cell c1 hneb.symm⟩
      refine hK.out _ _ ?_ (fun hHeld => ?_)
      · exact hS3
      clear hK K
      try simp only [List.getElem_toArray, List.getElem_cons_succ, List.getElem_cons_zero, Act.put, List.setIfInBounds_toArray, List.set_cons_zero, List.set_cons_succ]
      refine wpAnyH_take (i := 16) (v := ?v16) rfl (by kernel_rfl) (by kernel_rfl) (by kernel_rfl) (fun _ _ _ h => h) (Or.inl ⟨rfl, ?y16⟩) (by assumption) ?_
      case y16 => (intro w hSw; (try dsimp only at hSw); go_simp; first | done | with_reducible rfl)
      simp only [List.getElem_toArray, List.getElem_cons_succ, List.getElem_cons_zero, Act.put, List.setIfInBounds_toArray, List.set_cons_zero, List.set_cons_succ]
      refine wpAnyH_take (i := 17) (v := ?v17) rfl (by kernel_rfl) (by kernel_rfl) (by kernel_rfl) (fun _ _ _ h => h) (Or.inl ⟨rfl, ?y17⟩) (by assumption) ?_
      case y17 => (intro w hSw; (try dsimp only at hSw); go_simp; first | done | with_reducible rfl)
      simp only [List.getElem_toArray, List.getElem_cons_succ, List.getElem_cons_zero, Act.put, List.setIfInBounds_toArray, List.set_cons_zero, List.set_cons_succ]
      have e6 : w3.cell? ⟨R, 6, none⟩ = some L := hgr.cell d6 hneR.symm
      have k6 : w3.frozen? ⟨R, 6, none⟩ = false := (hM1.out.2.1.choose_spec.1.of_block (hgr.block R hRlt hneR.symm)).frozen 6
      have hM2 := Lib.hid (hM1.out.setList (x := ⟨at_, letter⟩) hgr hown3)
      have hB2 := Lib.hid ((Below.grown hB1.out hgr z1 (fun j hj => owns_ge hown.out hj)).setCell hRb (.slice Av (out.length + 1) cv) (p := ⟨R, 6, none⟩))
      clear hown3 hgr3 hnil hgr hS3
      refine wpAnyH_ready (rs := [18]) (by kernel_rfl) (by simp) ?_
      refine AllReadyH.cons rfl (fun K hK => ?_) AllReadyH.nil
      go_simp
      refine hK.out _ _ ?_ (fun hHeld => ?_)
      · exact ⟨(World.cell?_setCell_other _ _ _ _ (by simp)).trans hHeld.1, (World.cell?_setCell_other _ _ _ _ (by simp)).trans hHeld.2⟩
      clear hK K
      try simp only [List.getElem_toArray, List.getElem_cons_succ, List.getElem_cons_zero, Act.put, List.setIfInBounds_toArray, List.set_cons_zero, List.set_cons_succ]
      refine wpAnyH_done (by kernel_rfl) ?_ _
      generalize w3.setCell ⟨R, 6, none⟩ (.slice Av (out.length + 1) cv) = w2 at *
      clear d0 d1 d2 d3 d4 d5 d6 f3 f5 f6 hRlt
      obtain ⟨d0, d1, d2, d3, d4, d5, d6⟩ := hM2.out.cells
      have f3 := hM2.out.frozen 3
      have f5 := hM2.out.frozen 5
      have hRlt := hM2.out.lt
      simp only at d0 d1 d2 d3 d4 d5 d6
      by_cases q1 : at_ < bell
      · have q1' : decide (at_ < bell) = true := decide_eq_true q1
        by_cases q2 : bell ≤ at_ + 2
        · have q2' : decide (bell ≤ at_ + 2) = true := decide_eq_true q2
          have hact : Hid (actS ⟨left, right, bell⟩ ⟨at_, free, bells, out⟩ ⟨0, letter⟩ = some ⟨at_ + 2, free, bells + 1, out ++ [⟨at_, letter⟩]⟩) := Lib.hid (by
            have e1 : ¬ (300 < at_ + 2 ∨ (free = false ∧ right < at_ + 2)) := by first | omega | (intro h; rcases h with h | ⟨h, h'⟩; omega; first | cases h; done | omega)
            have e2 : (if at_ < bell ∧ bell ≤ at_ + 2 then (1 : Nat) else 0) = 1 := by rw [if_pos ⟨q1, q2⟩]
            simp only [actS]
            rw [if_pos (by decide), hst.out, if_neg e1, e2]
            simp)
          clear q1 q2
          go_wp2_with fail
          go_quiet (fail)
          go_wp2
          go_ret
          exact ActOut.yes hact.out (((below_drewN hB2.out _).setCell hRb _).setCell hRb _) ⟨_, ((hM2.out.drewN _).setBells (bells + 1) _ (by simp)).setAt _⟩
        · have q2' : decide (bell ≤ at_ + 2) = false := decide_eq_false q2
          have hact : Hid (actS ⟨left, right, bell⟩ ⟨at_, free, bells, out⟩ ⟨0, letter⟩ = some ⟨at_ + 2, free, bells + 0, out ++ [⟨at_, letter⟩]⟩) := Lib.hid (by
            have e1 : ¬ (300 < at_ + 2 ∨ (free = false ∧ right < at_ + 2)) := by first | omega | (intro h; rcases h with h | ⟨h, h'⟩; omega; first | cases h; done | omega)
            have e2 : (if at_ < bell ∧ bell ≤ at_ + 2 then (1 : Nat) else 0) = 0 := by rw [if_neg (by omega)]
            simp only [actS]
            rw [if_pos (by decide), hst.out, if_neg e1, e2]
            simp)
          clear q1
          go_wp2_with fail
          go_quiet (fail)
          go_wp2
          go_ret
          exact ActOut.yes hact.out ((below_drewN hB2.out _).setCell hRb _) ⟨_, (hM2.out.drewN _).setAt _⟩
      · have q1' : decide (at_ < bell) = false := decide_eq_false q1
        have hact : Hid (actS ⟨left, right, bell⟩ ⟨at_, free, bells, out⟩ ⟨0, letter⟩ = some ⟨at_ + 2, free, bells + 0, out ++ [⟨at_, letter⟩]⟩) := Lib.hid (by
          have e1 : ¬ (300 < at_ + 2 ∨ (free = false ∧ right < at_ + 2)) := by first | omega | (intro h; rcases h with h | ⟨h, h'⟩; omega; first | cases h; done | omega)
          have e2 : (if at_ < bell ∧ bell ≤ at_ + 2 then (1 : Nat) else 0) = 0 := by rw [if_neg (by omega)]
          simp only [actS]
          rw [if_pos (by decide), hst.out, if_neg e1, e2]
          simp)
        clear q1
        go_wp2_with fail
        go_quiet (fail)
        go_wp2
        go_ret
        exact ActOut.yes hact.out ((below_drewN hB2.out _).setCell hRb _) ⟨_, (hM2.out.drewN _).setAt _⟩
end Go.Proofs.Ytphhpmnigchooaa
