/- The model's machine does one act. -/
import Derived.Test.YtphhpmnigchooaaMach0
import Derived.OwnWalk
namespace Go.Proofs.Ytphhpmnigchooaa
open Go.RowKit Go.ChangeShapes Go.WideShapes Go.Deep
set_option linter.unusedVariables false
set_option linter.unusedSimpArgs false

/-- What the model's act leaves. -/
def ActOut (base R : Nat) (c : CarriageD) (s : StD) (x : ActD) (L : Value) (w : World) (e : Ending) (w' : World) : Prop :=
  match actS c s x with
  | none => e = .returned (.bool false) ∧ Below base w w' ∧ Mach w' base R c s L
  | some s' => e = .returned (.bool true) ∧ Below base w w' ∧ ∃ L', Mach w' base R c s' L'
theorem ActOut.no {base R : Nat} {c : CarriageD} {s : StD} {x : ActD} {L : Value} {w w' : World} (h : actS c s x = none) (hb : Below base w w') (hm : Mach w' base R c s L) : ActOut base R c s x L w (.returned (.bool false)) w' := by
  unfold ActOut; rw [h]; exact ⟨rfl, hb, hm⟩
theorem ActOut.yes {base R : Nat} {c : CarriageD} {s s' : StD} {x : ActD} {L : Value} {w w' : World} (h : actS c s x = some s') (hb : Below base w w') (hm : ∃ L', Mach w' base R c s' L') : ActOut base R c s x L w (.returned (.bool true)) w' := by
  unfold ActOut; rw [h]; exact ⟨rfl, hb, hm⟩

set_option maxRecDepth 100000 in
set_option maxHeartbeats 1600000 in
theorem act2_spec (c : CarriageD) (s : StD) (letter : ByteArray) (R b off base : Nat) (L : Value) (w : World) (hM : Mach w base R c s L) (hc : carOk c = true) (hs : 0 ≤ s.at_ ∧ s.at_ ≤ 300) (hbl : s.bells ≤ 1000) (hlen : s.out.length ≤ 1000) (hz : base ≤ w.heap.size)
    (c0 : w.cell? ⟨b, off, none⟩ = some (.int .i64 2)) (c1 : w.cell? ⟨b, off + 1, none⟩ = some (.string letter)) (hbr : b < base) :
    Calls Try.prog 42 #[.pointer (some ⟨R, 0, none⟩), .pointer (some ⟨b, off, none⟩)] w (ActOut base R c s ⟨2, letter⟩ L w) := by
  obtain ⟨⟨l0, l1⟩, ⟨r0, r1⟩, r2, ⟨b0, b1⟩⟩ := carOk_iff.1 hc
  obtain ⟨d0, d1, d2, d3, d4, d5, d6⟩ := hM.cells
  have fz := hM.frozen
  have f3 := fz 3
  have f4 := fz 4
  have f5 := fz 5
  have f6 := fz 6
  have hRlt := hM.lt
  have hRb := hM.base_le
  clear fz hc
  obtain ⟨s0, s1⟩ := hs
  obtain ⟨at_, free, bells, out⟩ := s
  obtain ⟨left, right, bell⟩ := c
  simp only at s0 s1 hbl hlen l0 l1 r0 r1 r2 b0 b1 d0 d1 d2 d3 d4 d5 d6
  replace hM := Lib.hid hM
  have hst : Hid (stepOf 2 = 0) := Lib.hid (by decide)
  have g1 : decide (300 < at_) = false := decide_eq_false (by omega)
  clear r0 r1 r2 b0 b1
  go_enter Try.func42, Try.ntmps42
  go_wp2_with fail
  refine (step_spec 2 hst.out _).mono ?_
  rintro e w' ⟨rfl, rfl⟩
  go_wp2_with fail
  go_quiet (fail)
  go_wp2_with fail
  refine (max0_spec 0 (at_ - 2) _).mono ?_
  rintro e w' ⟨rfl, rfl⟩
  go_wp2
  go_ret
  exact ActOut.yes (s' := ⟨max 0 (at_ - 2), free, bells, out⟩) (by simp [actS]) ((below_drewN (Below.refl _ _) _).setCell hRb _) ⟨L, (hM.out.drewN _).setAt _⟩

set_option maxRecDepth 100000 in
set_option maxHeartbeats 1600000 in
theorem act4_spec (c : CarriageD) (s : StD) (letter : ByteArray) (R b off base : Nat) (L : Value) (w : World) (hM : Mach w base R c s L) (hc : carOk c = true) (hs : 0 ≤ s.at_ ∧ s.at_ ≤ 300) (hbl : s.bells ≤ 1000) (hlen : s.out.length ≤ 1000) (hz : base ≤ w.heap.size)
    (c0 : w.cell? ⟨b, off, none⟩ = some (.int .i64 4)) (c1 : w.cell? ⟨b, off + 1, none⟩ = some (.string letter)) (hbr : b < base) :
    Calls Try.prog 42 #[.pointer (some ⟨R, 0, none⟩), .pointer (some ⟨b, off, none⟩)] w (ActOut base R c s ⟨4, letter⟩ L w) := by
  obtain ⟨⟨l0, l1⟩, ⟨r0, r1⟩, r2, ⟨b0, b1⟩⟩ := carOk_iff.1 hc
  obtain ⟨d0, d1, d2, d3, d4, d5, d6⟩ := hM.cells
  have fz := hM.frozen
  have f3 := fz 3
  have f4 := fz 4
  have f5 := fz 5
  have f6 := fz 6
  have hRlt := hM.lt
  have hRb := hM.base_le
  clear fz hc
  obtain ⟨s0, s1⟩ := hs
  obtain ⟨at_, free, bells, out⟩ := s
  obtain ⟨left, right, bell⟩ := c
  simp only at s0 s1 hbl hlen l0 l1 r0 r1 r2 b0 b1 d0 d1 d2 d3 d4 d5 d6
  replace hM := Lib.hid hM
  have hst : Hid (stepOf 4 = 0) := Lib.hid (by decide)
  have g1 : decide (300 < at_) = false := decide_eq_false (by omega)
  clear r0 r1 r2 b0 b1
  go_enter Try.func42, Try.ntmps42
  go_wp2_with fail
  refine (step_spec 4 hst.out _).mono ?_
  rintro e w' ⟨rfl, rfl⟩
  go_wp2_with fail
  go_quiet (fail)
  go_wp2
  go_ret
  exact ActOut.yes (s' := ⟨at_, true, bells, out⟩) (by simp [actS]) ((below_drewN (Below.refl _ _) _).setCell hRb _) ⟨L, (hM.out.drewN _).setFree _⟩

set_option maxRecDepth 100000 in
set_option maxHeartbeats 1600000 in
theorem act5_spec (c : CarriageD) (s : StD) (letter : ByteArray) (R b off base : Nat) (L : Value) (w : World) (hM : Mach w base R c s L) (hc : carOk c = true) (hs : 0 ≤ s.at_ ∧ s.at_ ≤ 300) (hbl : s.bells ≤ 1000) (hlen : s.out.length ≤ 1000) (hz : base ≤ w.heap.size)
    (c0 : w.cell? ⟨b, off, none⟩ = some (.int .i64 5)) (c1 : w.cell? ⟨b, off + 1, none⟩ = some (.string letter)) (hbr : b < base) :
    Calls Try.prog 42 #[.pointer (some ⟨R, 0, none⟩), .pointer (some ⟨b, off, none⟩)] w (ActOut base R c s ⟨5, letter⟩ L w) := by
  obtain ⟨⟨l0, l1⟩, ⟨r0, r1⟩, r2, ⟨b0, b1⟩⟩ := carOk_iff.1 hc
  obtain ⟨d0, d1, d2, d3, d4, d5, d6⟩ := hM.cells
  have fz := hM.frozen
  have f3 := fz 3
  have f4 := fz 4
  have f5 := fz 5
  have f6 := fz 6
  have hRlt := hM.lt
  have hRb := hM.base_le
  clear fz hc
  obtain ⟨s0, s1⟩ := hs
  obtain ⟨at_, free, bells, out⟩ := s
  obtain ⟨left, right, bell⟩ := c
  simp only at s0 s1 hbl hlen l0 l1 r0 r1 r2 b0 b1 d0 d1 d2 d3 d4 d5 d6
  replace hM := Lib.hid hM
  have hst : Hid (stepOf 5 = 0) := Lib.hid (by decide)
  have g1 : decide (300 < at_) = false := decide_eq_false (by omega)
  clear r0 r1 r2 b0 b1
  go_enter Try.func42, Try.ntmps42
  go_wp2_with fail
  refine (step_spec 5 hst.out _).mono ?_
  rintro e w' ⟨rfl, rfl⟩
  go_wp2_with fail
  go_quiet (fail)
  go_wp2
  go_ret
  exact ActOut.yes (s' := ⟨left, false, bells, out⟩) (by simp [actS]) (((below_drewN (Below.refl _ _) _).setCell hRb _).setCell hRb _) ⟨L, ((hM.out.drewN _).setAt _).setFree _⟩


end Go.Proofs.Ytphhpmnigchooaa
