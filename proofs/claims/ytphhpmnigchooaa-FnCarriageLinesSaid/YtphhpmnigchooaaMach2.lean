/- The model's machine does an act that moves it on. -/
import Derived.Test.YtphhpmnigchooaaMach1
namespace Go.Proofs.Ytphhpmnigchooaa
open Go.RowKit Go.ChangeShapes Go.WideShapes Go.Deep
set_option linter.unusedVariables false
set_option linter.unusedSimpArgs false

set_option maxRecDepth 100000 in
set_option maxHeartbeats 4000000 in
theorem act1_spec (c : CarriageD) (s : StD) (letter : ByteArray) (R b off base : Nat) (L : Value) (w : World) (hM : Mach w base R c s L) (hc : carOk c = true) (hs : 0 ≤ s.at_ ∧ s.at_ ≤ 300) (hbl : s.bells ≤ 1000) (hlen : s.out.length ≤ 1000) (hz : base ≤ w.heap.size)
    (c0 : w.cell? ⟨b, off, none⟩ = some (.int .i64 1)) (c1 : w.cell? ⟨b, off + 1, none⟩ = some (.string letter)) (hbr : b < base) :
    Calls Try.prog 42 #[.pointer (some ⟨R, 0, none⟩), .pointer (some ⟨b, off, none⟩)] w (ActOut base R c s ⟨1, letter⟩ L w) := by
  obtain ⟨⟨l0, l1⟩, ⟨r0, r1⟩, r2, ⟨b0, b1⟩⟩ := carOk_iff.1 hc
  obtain ⟨d0, d1, d2, d3, d4, d5, d6⟩ := hM.cells
  have fz := hM.frozen
  have f3 := fz 3
  have f4 := fz 4
  have f5 := fz 5
  have f6 := fz 6
  have hRlt := hM.lt
  have hRb := hM.base_le
  clear fz hc
  obtain ⟨s0, s1⟩ := hs
  obtain ⟨at_, free, bells, out⟩ := s
  obtain ⟨left, right, bell⟩ := c
  simp only at s0 s1 hbl hlen l0 l1 r0 r1 r2 b0 b1 d0 d1 d2 d3 d4 d5 d6
  replace hM := Lib.hid hM
  have hst : Hid (stepOf 1 = 2) := Lib.hid (by decide)
  by_cases hR : right < at_ + 2
  · have g1 : decide (right < at_ + 2) = true := decide_eq_true hR
    cases free with
    | false =>
      go_enter Try.func42, Try.ntmps42
      go_wp2_with fail
      refine (step_spec 1 hst.out _).mono ?_
      rintro e w' ⟨rfl, rfl⟩
      go_wp2_with fail
      go_quiet (fail)
      go_wp2
      go_ret
      exact ActOut.no (by simp [actS, stepOf]; omega) (below_drewN (Below.refl _ _) _) (hM.out.drewN _)
    | true =>
      by_cases hX : 300 < at_ + 2
      · have g2 : decide (300 < at_ + 2) = true := decide_eq_true hX
        go_enter Try.func42, Try.ntmps42
        go_wp2_with fail
        refine (step_spec 1 hst.out _).mono ?_
        rintro e w' ⟨rfl, rfl⟩
        go_wp2_with fail
        go_quiet (fail)
        go_wp2
        go_ret
        exact ActOut.no (by simp [actS, stepOf]; omega) (below_drewN (Below.refl _ _) _) (hM.out.drewN _)
      · have g2 : decide (300 < at_ + 2) = false := decide_eq_false hX
        go_enter Try.func42, Try.ntmps42
        go_wp2_with fail
        refine (step_spec 1 hst.out _).mono ?_
        rintro e w' ⟨rfl, rfl⟩
        go_wp2_with fail
        go_quiet (fail)
        have hM1 := hM.out.drewN nq
        obtain ⟨w1, hw1⟩ : ∃ w1, w.drewN nq = w1 := ⟨_, rfl⟩
        rw [hw1] at hM1 ⊢
        have hB1 : Below base w w1 := hw1 ▸ below_drewN (Below.refl _ _) _
        have z1 : base ≤ w1.heap.size := hw1 ▸ hz
        replace c0 : w1.cell? ⟨b, off, none⟩ = some (.int .i64 1) := hw1 ▸ c0
        replace c1 : w1.cell? ⟨b, off + 1, none⟩ = some (.string letter) := hw1 ▸ c1
        clear hw1 hM d0 d1 d2 d3 d4 d5 d6 f3 f4 f5 f6 hRlt
        obtain ⟨d0, d1, d2, d3, d4, d5, d6⟩ := hM1.cells
        have fz := hM1.frozen
        have f3 := fz 3
        have f5 := fz 5
        have f6 := fz 6
        have hRlt := hM1.lt
        clear fz
        simp only at d0 d1 d2 d3 d4 d5 d6
        replace hM1 := Lib.hid hM1
        replace hB1 := Lib.hid hB1
        by_cases q1 : at_ < bell
        · have q1' : decide (at_ < bell) = true := decide_eq_true q1
          by_cases q2 : bell ≤ at_ + 2
          · have q2' : decide (bell ≤ at_ + 2) = true := decide_eq_true q2
            have hact : Hid (actS ⟨left, right, bell⟩ ⟨at_, true, bells, out⟩ ⟨1, letter⟩ = some ⟨at_ + 2, true, bells + 1, out⟩) := Lib.hid (by
              have e1 : ¬ (300 < at_ + 2 ∨ (true = false ∧ right < at_ + 2)) := by first | omega | (intro h; rcases h with h | ⟨h, h'⟩; omega; first | cases h; done | omega)
              have e2 : (if at_ < bell ∧ bell ≤ at_ + 2 then (1 : Nat) else 0) = 1 := by rw [if_pos ⟨q1, q2⟩]
              simp only [actS]
              rw [if_pos (by decide), hst.out, if_neg e1, e2]
              simp)
            clear q1 q2
            go_wp2_with fail
            go_quiet (fail)
            go_wp2
            go_ret
            exact ActOut.yes hact.out (((below_drewN hB1.out _).setCell hRb _).setCell hRb _) ⟨L, ((hM1.out.drewN _).setBells (bells + 1) _ (by simp)).setAt _⟩
          · exfalso; omega
        · have q1' : decide (at_ < bell) = false := decide_eq_false q1
          have hact : Hid (actS ⟨left, right, bell⟩ ⟨at_, true, bells, out⟩ ⟨1, letter⟩ = some ⟨at_ + 2, true, bells + 0, out⟩) := Lib.hid (by
            have e1 : ¬ (300 < at_ + 2 ∨ (true = false ∧ right < at_ + 2)) := by first | omega | (intro h; rcases h with h | ⟨h, h'⟩; omega; first | cases h; done | omega)
            have e2 : (if at_ < bell ∧ bell ≤ at_ + 2 then (1 : Nat) else 0) = 0 := by rw [if_neg (by omega)]
            simp only [actS]
            rw [if_pos (by decide), hst.out, if_neg e1, e2]
            simp)
          clear q1
          go_wp2_with fail
          go_quiet (fail)
          go_wp2
          go_ret
          exact ActOut.yes hact.out ((below_drewN hB1.out _).setCell hRb _) ⟨L, (hM1.out.drewN _).setAt _⟩
  · have g1 : decide (right < at_ + 2) = false := decide_eq_false hR
    have hX : ¬ 300 < at_ + 2 := by omega
    have g2 : decide (300 < at_ + 2) = false := decide_eq_false hX
    go_enter Try.func42, Try.ntmps42
    go_wp2_with fail
    refine (step_spec 1 hst.out _).mono ?_
    rintro e w' ⟨rfl, rfl⟩
    go_wp2_with fail
    go_quiet (fail)
    have hM1 := hM.out.drewN nq
    obtain ⟨w1, hw1⟩ : ∃ w1, w.drewN nq = w1 := ⟨_, rfl⟩
    rw [hw1] at hM1 ⊢
    have hB1 : Below base w w1 := hw1 ▸ below_drewN (Below.refl _ _) _
    have z1 : base ≤ w1.heap.size := hw1 ▸ hz
    replace c0 : w1.cell? ⟨b, off, none⟩ = some (.int .i64 1) := hw1 ▸ c0
    replace c1 : w1.cell? ⟨b, off + 1, none⟩ = some (.string letter) := hw1 ▸ c1
    clear hw1 hM d0 d1 d2 d3 d4 d5 d6 f3 f4 f5 f6 hRlt
    obtain ⟨d0, d1, d2, d3, d4, d5, d6⟩ := hM1.cells
    have fz := hM1.frozen
    have f3 := fz 3
    have f5 := fz 5
    have f6 := fz 6
    have hRlt := hM1.lt
    clear fz
    simp only at d0 d1 d2 d3 d4 d5 d6
    replace hM1 := Lib.hid hM1
    replace hB1 := Lib.hid hB1
    by_cases q1 : at_ < bell
    · have q1' : decide (at_ < bell) = true := decide_eq_true q1
      by_cases q2 : bell ≤ at_ + 2
      · have q2' : decide (bell ≤ at_ + 2) = true := decide_eq_true q2
        have hact : Hid (actS ⟨left, right, bell⟩ ⟨at_, free, bells, out⟩ ⟨1, letter⟩ = some ⟨at_ + 2, free, bells + 1, out⟩) := Lib.hid (by
          have e1 : ¬ (300 < at_ + 2 ∨ (free = false ∧ right < at_ + 2)) := by first | omega | (intro h; rcases h with h | ⟨h, h'⟩; omega; first | cases h; done | omega)
          have e2 : (if at_ < bell ∧ bell ≤ at_ + 2 then (1 : Nat) else 0) = 1 := by rw [if_pos ⟨q1, q2⟩]
          simp only [actS]
          rw [if_pos (by decide), hst.out, if_neg e1, e2]
          simp)
        clear q1 q2
        go_wp2_with fail
        go_quiet (fail)
        go_wp2
        go_ret
        exact ActOut.yes hact.out (((below_drewN hB1.out _).setCell hRb _).setCell hRb _) ⟨L, ((hM1.out.drewN _).setBells (bells + 1) _ (by simp)).setAt _⟩
      · have q2' : decide (bell ≤ at_ + 2) = false := decide_eq_false q2
        have hact : Hid (actS ⟨left, right, bell⟩ ⟨at_, free, bells, out⟩ ⟨1, letter⟩ = some ⟨at_ + 2, free, bells + 0, out⟩) := Lib.hid (by
          have e1 : ¬ (300 < at_ + 2 ∨ (free = false ∧ right < at_ + 2)) := by first | omega | (intro h; rcases h with h | ⟨h, h'⟩; omega; first | cases h; done | omega)
          have e2 : (if at_ < bell ∧ bell ≤ at_ + 2 then (1 : Nat) else 0) = 0 := by rw [if_neg (by omega)]
          simp only [actS]
          rw [if_pos (by decide), hst.out, if_neg e1, e2]
          simp)
        clear q1
        go_wp2_with fail
        go_quiet (fail)
        go_wp2
        go_ret
        exact ActOut.yes hact.out ((below_drewN hB1.out _).setCell hRb _) ⟨L, (hM1.out.drewN _).setAt _⟩
    · have q1' : decide (at_ < bell) = false := decide_eq_false q1
      have hact : Hid (actS ⟨left, right, bell⟩ ⟨at_, free, bells, out⟩ ⟨1, letter⟩ = some ⟨at_ + 2, free, bells + 0, out⟩) := Lib.hid (by
        have e1 : ¬ (300 < at_ + 2 ∨ (free = false ∧ right < at_ + 2)) := by first | omega | (intro h; rcases h with h | ⟨h, h'⟩; omega; first | cases h; done | omega)
        have e2 : (if at_ < bell ∧ bell ≤ at_ + 2 then (1 : Nat) else 0) = 0 := by rw [if_neg (by omega)]
        simp only [actS]
        rw [if_pos (by decide), hst.out, if_neg e1, e2]
        simp)
      clear q1
      go_wp2_with fail
      go_quiet (fail)
      go_wp2
      go_ret
      exact ActOut.yes hact.out ((below_drewN hB1.out _).setCell hRb _) ⟨L, (hM1.out.drewN _).setAt _⟩

set_option maxRecDepth 100000 in
set_option maxHeartbeats 4000000 in
theorem act3_spec (c : CarriageD) (s : StD) (letter : ByteArray) (R b off base : Nat) (L : Value) (w : World) (hM : Mach w base R c s L) (hc : carOk c = true) (hs : 0 ≤ s.at_ ∧ s.at_ ≤ 300) (hbl : s.bells ≤ 1000) (hlen : s.out.length ≤ 1000) (hz : base ≤ w.heap.size)
    (c0 : w.cell? ⟨b, off, none⟩ = some (.int .i64 3)) (c1 : w.cell? ⟨b, off + 1, none⟩ = some (.string letter)) (hbr : b < base) :
    Calls Try.prog 42 #[.pointer (some ⟨R, 0, none⟩), .pointer (some ⟨b, off, none⟩)] w (ActOut base R c s ⟨3, letter⟩ L w) := by
  obtain ⟨⟨l0, l1⟩, ⟨r0, r1⟩, r2, ⟨b0, b1⟩⟩ := carOk_iff.1 hc
  obtain ⟨d0, d1, d2, d3, d4, d5, d6⟩ := hM.cells
  have fz := hM.frozen
  have f3 := fz 3
  have f4 := fz 4
  have f5 := fz 5
  have f6 := fz 6
  have hRlt := hM.lt
  have hRb := hM.base_le
  clear fz hc
  obtain ⟨s0, s1⟩ := hs
  obtain ⟨at_, free, bells, out⟩ := s
  obtain ⟨left, right, bell⟩ := c
  simp only at s0 s1 hbl hlen l0 l1 r0 r1 r2 b0 b1 d0 d1 d2 d3 d4 d5 d6
  replace hM := Lib.hid hM
  have hst : Hid (stepOf 3 = 1) := Lib.hid (by decide)
  by_cases hR : right < at_ + 1
  · have g1 : decide (right < at_ + 1) = true := decide_eq_true hR
    cases free with
    | false =>
      go_enter Try.func42, Try.ntmps42
      go_wp2_with fail
      refine (step_spec 3 hst.out _).mono ?_
      rintro e w' ⟨rfl, rfl⟩
      go_wp2_with fail
      go_quiet (fail)
      go_wp2
      go_ret
      exact ActOut.no (by simp [actS, stepOf]; omega) (below_drewN (Below.refl _ _) _) (hM.out.drewN _)
    | true =>
      by_cases hX : 300 < at_ + 1
      · have g2 : decide (300 < at_ + 1) = true := decide_eq_true hX
        go_enter Try.func42, Try.ntmps42
        go_wp2_with fail
        refine (step_spec 3 hst.out _).mono ?_
        rintro e w' ⟨rfl, rfl⟩
        go_wp2_with fail
        go_quiet (fail)
        go_wp2
        go_ret
        exact ActOut.no (by simp [actS, stepOf]; omega) (below_drewN (Below.refl _ _) _) (hM.out.drewN _)
      · have g2 : decide (300 < at_ + 1) = false := decide_eq_false hX
        go_enter Try.func42, Try.ntmps42
        go_wp2_with fail
        refine (step_spec 3 hst.out _).mono ?_
        rintro e w' ⟨rfl, rfl⟩
        go_wp2_with fail
        go_quiet (fail)
        have hM1 := hM.out.drewN nq
        obtain ⟨w1, hw1⟩ : ∃ w1, w.drewN nq = w1 := ⟨_, rfl⟩
        rw [hw1] at hM1 ⊢
        have hB1 : Below base w w1 := hw1 ▸ below_drewN (Below.refl _ _) _
        have z1 : base ≤ w1.heap.size := hw1 ▸ hz
        replace c0 : w1.cell? ⟨b, off, none⟩ = some (.int .i64 3) := hw1 ▸ c0
        replace c1 : w1.cell? ⟨b, off + 1, none⟩ = some (.string letter) := hw1 ▸ c1
        clear hw1 hM d0 d1 d2 d3 d4 d5 d6 f3 f4 f5 f6 hRlt
        obtain ⟨d0, d1, d2, d3, d4, d5, d6⟩ := hM1.cells
        have fz := hM1.frozen
        have f3 := fz 3
        have f5 := fz 5
        have f6 := fz 6
        have hRlt := hM1.lt
        clear fz
        simp only at d0 d1 d2 d3 d4 d5 d6
        replace hM1 := Lib.hid hM1
        replace hB1 := Lib.hid hB1
        by_cases q1 : at_ < bell
        · have q1' : decide (at_ < bell) = true := decide_eq_true q1
          by_cases q2 : bell ≤ at_ + 1
          · have q2' : decide (bell ≤ at_ + 1) = true := decide_eq_true q2
            have hact : Hid (actS ⟨left, right, bell⟩ ⟨at_, true, bells, out⟩ ⟨3, letter⟩ = some ⟨at_ + 1, true, bells + 1, out⟩) := Lib.hid (by
              have e1 : ¬ (300 < at_ + 1 ∨ (true = false ∧ right < at_ + 1)) := by first | omega | (intro h; rcases h with h | ⟨h, h'⟩; omega; first | cases h; done | omega)
              have e2 : (if at_ < bell ∧ bell ≤ at_ + 1 then (1 : Nat) else 0) = 1 := by rw [if_pos ⟨q1, q2⟩]
              simp only [actS]
              rw [if_pos (by decide), hst.out, if_neg e1, e2]
              simp)
            clear q1 q2
            go_wp2_with fail
            go_quiet (fail)
            go_wp2
            go_ret
            exact ActOut.yes hact.out (((below_drewN hB1.out _).setCell hRb _).setCell hRb _) ⟨L, ((hM1.out.drewN _).setBells (bells + 1) _ (by simp)).setAt _⟩
          · exfalso; omega
        · have q1' : decide (at_ < bell) = false := decide_eq_false q1
          have hact : Hid (actS ⟨left, right, bell⟩ ⟨at_, true, bells, out⟩ ⟨3, letter⟩ = some ⟨at_ + 1, true, bells + 0, out⟩) := Lib.hid (by
            have e1 : ¬ (300 < at_ + 1 ∨ (true = false ∧ right < at_ + 1)) := by first | omega | (intro h; rcases h with h | ⟨h, h'⟩; omega; first | cases h; done | omega)
            have e2 : (if at_ < bell ∧ bell ≤ at_ + 1 then (1 : Nat) else 0) = 0 := by rw [if_neg (by omega)]
            simp only [actS]
            rw [if_pos (by decide), hst.out, if_neg e1, e2]
            simp)
          clear q1
          go_wp2_with fail
          go_quiet (fail)
          go_wp2
          go_ret
          exact ActOut.yes hact.out ((below_drewN hB1.out _).setCell hRb _) ⟨L, (hM1.out.drewN _).setAt _⟩
  · have g1 : decide (right < at_ + 1) = false := decide_eq_false hR
    have hX : ¬ 300 < at_ + 1 := by omega
    have g2 : decide (300 < at_ + 1) = false := decide_eq_false hX
    go_enter Try.func42, Try.ntmps42
    go_wp2_with fail
    refine (step_spec 3 hst.out _).mono ?_
    rintro e w' ⟨rfl, rfl⟩
    go_wp2_with fail
    go_quiet (fail)
    have hM1 := hM.out.drewN nq
    obtain ⟨w1, hw1⟩ : ∃ w1, w.drewN nq = w1 := ⟨_, rfl⟩
    rw [hw1] at hM1 ⊢
    have hB1 : Below base w w1 := hw1 ▸ below_drewN (Below.refl _ _) _
    have z1 : base ≤ w1.heap.size := hw1 ▸ hz
    replace c0 : w1.cell? ⟨b, off, none⟩ = some (.int .i64 3) := hw1 ▸ c0
    replace c1 : w1.cell? ⟨b, off + 1, none⟩ = some (.string letter) := hw1 ▸ c1
    clear hw1 hM d0 d1 d2 d3 d4 d5 d6 f3 f4 f5 f6 hRlt
    obtain ⟨d0, d1, d2, d3, d4, d5, d6⟩ := hM1.cells
    have fz := hM1.frozen
    have f3 := fz 3
    have f5 := fz 5
    have f6 := fz 6
    have hRlt := hM1.lt
    clear fz
    simp only at d0 d1 d2 d3 d4 d5 d6
    replace hM1 := Lib.hid hM1
    replace hB1 := Lib.hid hB1
    by_cases q1 : at_ < bell
    · have q1' : decide (at_ < bell) = true := decide_eq_true q1
      by_cases q2 : bell ≤ at_ + 1
      · have q2' : decide (bell ≤ at_ + 1) = true := decide_eq_true q2
        have hact : Hid (actS ⟨left, right, bell⟩ ⟨at_, free, bells, out⟩ ⟨3, letter⟩ = some ⟨at_ + 1, free, bells + 1, out⟩) := Lib.hid (by
          have e1 : ¬ (300 < at_ + 1 ∨ (free = false ∧ right < at_ + 1)) := by first | omega | (intro h; rcases h with h | ⟨h, h'⟩; omega; first | cases h; done | omega)
          have e2 : (if at_ < bell ∧ bell ≤ at_ + 1 then (1 : Nat) else 0) = 1 := by rw [if_pos ⟨q1, q2⟩]
          simp only [actS]
          rw [if_pos (by decide), hst.out, if_neg e1, e2]
          simp)
        clear q1 q2
        go_wp2_with fail
        go_quiet (fail)
        go_wp2
        go_ret
        exact ActOut.yes hact.out (((below_drewN hB1.out _).setCell hRb _).setCell hRb _) ⟨L, ((hM1.out.drewN _).setBells (bells + 1) _ (by simp)).setAt _⟩
      · have q2' : decide (bell ≤ at_ + 1) = false := decide_eq_false q2
        have hact : Hid (actS ⟨left, right, bell⟩ ⟨at_, free, bells, out⟩ ⟨3, letter⟩ = some ⟨at_ + 1, free, bells + 0, out⟩) := Lib.hid (by
          have e1 : ¬ (300 < at_ + 1 ∨ (free = false ∧ right < at_ + 1)) := by first | omega | (intro h; rcases h with h | ⟨h, h'⟩; omega; first | cases h; done | omega)
          have e2 : (if at_ < bell ∧ bell ≤ at_ + 1 then (1 : Nat) else 0) = 0 := by rw [if_neg (by omega)]
          simp only [actS]
          rw [if_pos (by decide), hst.out, if_neg e1, e2]
          simp)
        clear q1
        go_wp2_with fail
        go_quiet (fail)
        go_wp2
        go_ret
        exact ActOut.yes hact.out ((below_drewN hB1.out _).setCell hRb _) ⟨L, (hM1.out.drewN _).setAt _⟩
    · have q1' : decide (at_ < bell) = false := decide_eq_false q1
      have hact : Hid (actS ⟨left, right, bell⟩ ⟨at_, free, bells, out⟩ ⟨3, letter⟩ = some ⟨at_ + 1, free, bells + 0, out⟩) := Lib.hid (by
        have e1 : ¬ (300 < at_ + 1 ∨ (free = false ∧ right < at_ + 1)) := by first | omega | (intro h; rcases h with h | ⟨h, h'⟩; omega; first | cases h; done | omega)
        have e2 : (if at_ < bell ∧ bell ≤ at_ + 1 then (1 : Nat) else 0) = 0 := by rw [if_neg (by omega)]
        simp only [actS]
        rw [if_pos (by decide), hst.out, if_neg e1, e2]
        simp)
      clear q1
      go_wp2_with fail
      go_quiet (fail)
      go_wp2
      go_ret
      exact ActOut.yes hact.out ((below_drewN hB1.out _).setCell hRb _) ⟨L, (hM1.out.drewN _).setAt _⟩

end Go.Proofs.Ytphhpmnigchooaa
