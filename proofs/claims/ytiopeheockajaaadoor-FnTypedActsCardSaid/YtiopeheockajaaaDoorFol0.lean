/- The program's machine: its block of five cells, and what each act does to it, as an event. -/
import Derived.Test.YtiopeheockajaaaDoorMach4
namespace Go.Proofs.YtiopeheockajaaaDoor
open Go.RowKit Go.ChangeShapes Go.WideShapes Go.Deep
set_option linter.unusedVariables false
set_option linter.unusedSimpArgs false

/-- An event as data. -/
structure EvD where
  place : Int
  letter : ByteArray
  rung : Bool
  stopped : Bool
def EvD.cells (e : EvD) : List Value := [.int .i64 e.place, .string e.letter, .bool e.rung, .bool e.stopped]
def evStop : EvD := ⟨0, ⟨#[]⟩, false, true⟩
/-- The event of an act that is done. -/
def evOf (c : CarriageD) (s : StD) (a : ActD) : EvD :=
  ⟨if a.kind = 0 then s.at_ else 0, if a.kind = 0 then a.letter else ⟨#[]⟩, decide (0 < stepOf a.kind) && (decide (s.at_ < c.bell) && decide (c.bell ≤ s.at_ + stepOf a.kind)), false⟩
/-- The machine at block R. -/
def IM (w : World) (R : Nat) (c : CarriageD) (at_ : Int) (free : Bool) : Prop :=
  ∃ f, w.rowIs R 102 5 f ∧ f 0 = .int .i64 c.left ∧ f 1 = .int .i64 c.right ∧ f 2 = .int .i64 c.bell ∧ f 3 = .int .i64 at_ ∧ f 4 = .bool free
section
variable {w w' : World} {R : Nat} {c : CarriageD} {a : Int} {fr : Bool}
theorem IM.drewN (h : IM w R c a fr) (n : Nat) : IM (w.drewN n) R c a fr := h
theorem IM.lt (h : IM w R c a fr) : R < w.heap.size := let ⟨_, hr, _⟩ := h; hr.lt
theorem IM.below (h : IM w R c a fr) (hb : Below w.heap.size w w') : IM w' R c a fr := by
  obtain ⟨f, hr, hf⟩ := h
  exact ⟨f, hr.of_block (hb.block R hr.lt), hf⟩
theorem IM.grown (h : IM w R c a fr) {row : Option Nat} (hb : w.grownBy w' row) (hne : row ≠ some R) : IM w' R c a fr := by
  obtain ⟨f, hr, hf⟩ := h
  exact ⟨f, hr.of_block (hb.block R hr.lt hne.symm), hf⟩
theorem IM.setAt (h : IM w R c a fr) (a' : Int) : IM (w.setCell ⟨R, 3, none⟩ (.int .i64 a')) R c a' fr := by
  obtain ⟨f, hr, f0, f1, f2, f3, f4⟩ := h
  exact ⟨_, hr.set 3 _, f0, f1, f2, rfl, f4⟩
theorem IM.setFree (h : IM w R c a fr) (b : Bool) : IM (w.setCell ⟨R, 4, none⟩ (.bool b)) R c a b := by
  obtain ⟨f, hr, f0, f1, f2, f3, f4⟩ := h
  exact ⟨_, hr.set 4 _, f0, f1, f2, f3, rfl⟩
theorem IM.setNew (h : IM w R c a fr) {g o : Nat} {v : Value} (hg : g ≠ R) : IM (w.setCell ⟨g, o, none⟩ v) R c a fr := by
  obtain ⟨f, hr, hf⟩ := h
  exact ⟨f, hr.of_block (Below.heap_setCell _ _ _ _ (fun e => hg (by simpa using e.symm))), hf⟩
theorem IM.cells (h : IM w R c a fr) : w.cell? ⟨R, 0, none⟩ = some (.int .i64 c.left) ∧ w.cell? ⟨R, 1, none⟩ = some (.int .i64 c.right) ∧ w.cell? ⟨R, 2, none⟩ = some (.int .i64 c.bell) ∧ w.cell? ⟨R, 3, none⟩ = some (.int .i64 a) ∧ w.cell? ⟨R, 4, none⟩ = some (.bool fr) := by
  obtain ⟨f, hr, f0, f1, f2, f3, f4⟩ := h
  refine ⟨?_, ?_, ?_, ?_, ?_⟩
  · rw [← f0]; exact hr.cell (by omega)
  · rw [← f1]; exact hr.cell (by omega)
  · rw [← f2]; exact hr.cell (by omega)
  · rw [← f3]; exact hr.cell (by omega)
  · rw [← f4]; exact hr.cell (by omega)
theorem IM.frozen (h : IM w R c a fr) (o : Nat) : w.frozen? ⟨R, o, none⟩ = false := let ⟨_, hr, _⟩ := h; hr.frozen o
theorem IM.row (h : IM w R c a fr) : ∃ f, w.rowIs R 102 5 f := let ⟨f, hr, _⟩ := h; ⟨f, hr⟩
end
theorem grown_new {w w1 : World} (h : Below w.heap.size w w1) : w.grownBy w1 none := grown_below h none
theorem grown_drewN {w w1 : World} {row : Option Nat} (h : w.grownBy w1 row) (n : Nat) : w.grownBy (w1.drewN n) row := ⟨h.os, h.tape, h.output, h.size, h.block⟩
theorem grown_alloc {w w1 : World} {row : Option Nat} (h : w.grownBy w1 row) (o : Obj) : w.grownBy (w1.alloc o) row := grown_trans h (grown_below (below_a1 _ _) _)
theorem grown_setR {w w1 : World} {g o : Nat} {v : Value} (h : w.grownBy w1 (some g)) : w.grownBy (w1.setCell ⟨g, o, none⟩ v) (some g) := grown_trans h grown_set
/-- A store into a block that was not there. -/
theorem grown_setNew {w w1 : World} {row : Option Nat} {g o : Nat} {v : Value} (h : w.grownBy w1 row) (hg : w.heap.size ≤ g) : w.grownBy (w1.setCell ⟨g, o, none⟩ v) row :=
  ⟨h.os, h.tape, h.output, by simpa [World.setCell] using h.size, fun k hk hr => (Below.heap_setCell _ _ _ _ (fun e => by simp at e; omega)).trans (h.block k hk hr)⟩
theorem deed0 (letter : ByteArray) (w : World) :
    Calls Tryd.prog 43 #[.agg #[.int .i64 0, .string letter]] w fun e w' => e = .returned (.iface 108 (.agg #[.string letter])) ∧ Below w.heap.size w w' := by
  go_enter Tryd.func43, Tryd.ntmps43
  go_wp2
  go_ret
  exact ⟨rfl, below_a1 _ _⟩
theorem deed1 (letter : ByteArray) (w : World) :
    Calls Tryd.prog 43 #[.agg #[.int .i64 1, .string letter]] w fun e w' => e = .returned (.iface 110 (.agg #[])) ∧ Below w.heap.size w w' := by
  go_enter Tryd.func43, Tryd.ntmps43
  go_wp2
  go_ret
  exact ⟨rfl, below_a1 _ _⟩
theorem deed2 (letter : ByteArray) (w : World) :
    Calls Tryd.prog 43 #[.agg #[.int .i64 2, .string letter]] w fun e w' => e = .returned (.iface 111 (.agg #[])) ∧ Below w.heap.size w w' := by
  go_enter Tryd.func43, Tryd.ntmps43
  go_wp2
  go_ret
  exact ⟨rfl, below_a1 _ _⟩
theorem deed3 (letter : ByteArray) (w : World) :
    Calls Tryd.prog 43 #[.agg #[.int .i64 3, .string letter]] w fun e w' => e = .returned (.iface 112 (.agg #[])) ∧ Below w.heap.size w w' := by
  go_enter Tryd.func43, Tryd.ntmps43
  go_wp2
  go_ret
  exact ⟨rfl, below_a1 _ _⟩
theorem deed4 (letter : ByteArray) (w : World) :
    Calls Tryd.prog 43 #[.agg #[.int .i64 4, .string letter]] w fun e w' => e = .returned (.iface 113 (.agg #[])) ∧ Below w.heap.size w w' := by
  go_enter Tryd.func43, Tryd.ntmps43
  go_wp2
  go_ret
  exact ⟨rfl, below_a1 _ _⟩
theorem deed5 (letter : ByteArray) (w : World) :
    Calls Tryd.prog 43 #[.agg #[.int .i64 5, .string letter]] w fun e w' => e = .returned (.iface 114 (.agg #[])) ∧ Below w.heap.size w w' := by
  go_enter Tryd.func43, Tryd.ntmps43
  go_wp2
  go_ret
  exact ⟨rfl, below_a1 _ _⟩

/-- What stops the machine that goes h half spaces on. -/
def stops (c : CarriageD) (a : Int) (fr : Bool) (h : Int) : Prop := 300 < a + h ∨ (fr = false ∧ c.right < a + h)
set_option maxRecDepth 100000 in
set_option maxHeartbeats 1600000 in
theorem goOn_stop (c : CarriageD) (a : Int) (fr : Bool) (h : Int) (R : Nat) (w : World) (hM : IM w R c a fr) (ha : 0 ≤ a ∧ a ≤ 300) (hh : 0 ≤ h ∧ h ≤ 2) (hs : stops c a fr h) :
    Calls Tryd.prog 104 #[.pointer (some ⟨R, 0, none⟩), .int .i64 h] w fun e w' => e = .returned (.agg #[.int .i64 0, .string ⟨#[]⟩, .bool false, .bool true]) ∧ Below w.heap.size w w' := by
  obtain ⟨left, right, bell⟩ := c
  obtain ⟨d0, d1, d2, d3, d4⟩ := hM.cells
  have hRlt := hM.lt
  have f3 := hM.frozen 3
  obtain ⟨a0, a1⟩ := ha
  obtain ⟨h0, h1⟩ := hh
  simp only at d0 d1 d2 d3 d4
  clear hM
  by_cases g1 : 300 < a + h
  · have g1' : decide (300 < a + h) = true := decide_eq_true g1
    clear hs
    go_enter Tryd.func104, Tryd.ntmps104
    go_wp2_with fail
    go_quiet (fail)
    go_wp2
    refine bodyPost_ret (v := .agg #[.int .i64 0, .string ⟨#[]⟩, .bool false, .bool true]) (by simp [results, Tryd.results104, go_sem]) rfl ?_
    exact ⟨rfl, (by repeat (first | refine Below.setCell ?_ (by first | exact Nat.le_refl _ | (simp; omega) | simp | omega) _ | refine below_drewN ?_ _ | refine Below.alloc ?_ (by first | exact Nat.le_refl _ | (simp; omega) | simp | omega) _ | with_reducible exact Below.refl _ _))⟩
  · have g1' : decide (300 < a + h) = false := decide_eq_false g1
    obtain ⟨hf, hr⟩ := Or.resolve_left hs g1
    subst hf
    have g2 : decide (right < a + h) = true := decide_eq_true hr
    clear hs g1 hr
    go_enter Tryd.func104, Tryd.ntmps104
    go_wp2_with fail
    go_quiet (fail)
    go_wp2
    refine bodyPost_ret (v := .agg #[.int .i64 0, .string ⟨#[]⟩, .bool false, .bool true]) (by simp [results, Tryd.results104, go_sem]) rfl ?_
    exact ⟨rfl, (by repeat (first | refine Below.setCell ?_ (by first | exact Nat.le_refl _ | (simp; omega) | simp | omega) _ | refine below_drewN ?_ _ | refine Below.alloc ?_ (by first | exact Nat.le_refl _ | (simp; omega) | simp | omega) _ | with_reducible exact Below.refl _ _))⟩

/-- .. that is not stopped. -/
def GoOut (c : CarriageD) (a : Int) (fr : Bool) (h : Int) (R : Nat) (w : World) (e : Ending) (w' : World) : Prop :=
  e = .returned (.agg #[.int .i64 0, .string ⟨#[]⟩, .bool (decide (a < c.bell) && decide (c.bell ≤ a + h)), .bool false]) ∧ w.grownBy w' (some R) ∧ IM w' R c (a + h) fr
set_option maxRecDepth 100000 in
set_option maxHeartbeats 1600000 in
theorem goOn_go (c : CarriageD) (a : Int) (fr : Bool) (h : Int) (R : Nat) (w : World) (hM : IM w R c a fr) (ha : 0 ≤ a ∧ a ≤ 300) (hh : 0 ≤ h ∧ h ≤ 2) (hs : ¬ stops c a fr h) :
    Calls Tryd.prog 104 #[.pointer (some ⟨R, 0, none⟩), .int .i64 h] w (GoOut c a fr h R w) := by
  obtain ⟨left, right, bell⟩ := c
  obtain ⟨d0, d1, d2, d3, d4⟩ := hM.cells
  have hRlt := hM.lt
  have f3 := hM.frozen 3
  obtain ⟨a0, a1⟩ := ha
  obtain ⟨h0, h1⟩ := hh
  simp only at d0 d1 d2 d3 d4
  have g1 : ¬ 300 < a + h := fun q => hs (.inl q)
  have g1' : decide (300 < a + h) = false := decide_eq_false g1
  replace hM := Lib.hid hM
  cases fr with
  | true =>
    clear hs
    cases q : decide (a < bell) with
    | false =>
      go_enter Tryd.func104, Tryd.ntmps104
      go_wp2_with fail
      go_quiet (fail)
      go_wp2
      refine bodyPost_ret (v := .agg #[.int .i64 0, .string ⟨#[]⟩, .bool false, .bool false]) (by simp [results, Tryd.results104, go_sem]) rfl ?_
      exact ⟨by simp [q], (by repeat (first | with_reducible refine grown_setR ?_ | refine grown_setNew ?_ (by first | exact Nat.le_refl _ | (simp; omega) | simp | omega) | with_reducible refine grown_drewN ?_ _ | with_reducible refine grown_alloc ?_ _ | with_reducible exact grown_refl _ _)), (by (repeat (with_reducible refine IM.setNew ?_ (by omega))); refine IM.setAt (a := a) ?_ _; refine IM.drewN ?_ _; exact IM.below hM.out (below_a1 _ _))⟩
    | true =>
      go_enter Tryd.func104, Tryd.ntmps104
      go_wp2_with fail
      go_quiet (fail)
      go_wp2
      refine bodyPost_ret (v := .agg #[.int .i64 0, .string ⟨#[]⟩, .bool (decide (bell ≤ a + h)), .bool false]) (by simp [results, Tryd.results104, go_sem]) rfl ?_
      exact ⟨by simp [q], (by repeat (first | with_reducible refine grown_setR ?_ | refine grown_setNew ?_ (by first | exact Nat.le_refl _ | (simp; omega) | simp | omega) | with_reducible refine grown_drewN ?_ _ | with_reducible refine grown_alloc ?_ _ | with_reducible exact grown_refl _ _)), (by (repeat (with_reducible refine IM.setNew ?_ (by omega))); refine IM.setAt (a := a) ?_ _; refine IM.drewN ?_ _; exact IM.below hM.out (below_a1 _ _))⟩
  | false =>
    have g2 : ¬ right < a + h := fun q => hs (.inr ⟨rfl, q⟩)
    have g2' : decide (right < a + h) = false := decide_eq_false g2
    clear hs
    cases q : decide (a < bell) with
    | false =>
      go_enter Tryd.func104, Tryd.ntmps104
      go_wp2_with fail
      go_quiet (fail)
      go_wp2
      refine bodyPost_ret (v := .agg #[.int .i64 0, .string ⟨#[]⟩, .bool false, .bool false]) (by simp [results, Tryd.results104, go_sem]) rfl ?_
      exact ⟨by simp [q], (by repeat (first | with_reducible refine grown_setR ?_ | refine grown_setNew ?_ (by first | exact Nat.le_refl _ | (simp; omega) | simp | omega) | with_reducible refine grown_drewN ?_ _ | with_reducible refine grown_alloc ?_ _ | with_reducible exact grown_refl _ _)), (by (repeat (with_reducible refine IM.setNew ?_ (by omega))); refine IM.setAt (a := a) ?_ _; refine IM.drewN ?_ _; exact IM.below hM.out (below_a1 _ _))⟩
    | true =>
      go_enter Tryd.func104, Tryd.ntmps104
      go_wp2_with fail
      go_quiet (fail)
      go_wp2
      refine bodyPost_ret (v := .agg #[.int .i64 0, .string ⟨#[]⟩, .bool (decide (bell ≤ a + h)), .bool false]) (by simp [results, Tryd.results104, go_sem]) rfl ?_
      exact ⟨by simp [q], (by repeat (first | with_reducible refine grown_setR ?_ | refine grown_setNew ?_ (by first | exact Nat.le_refl _ | (simp; omega) | simp | omega) | with_reducible refine grown_drewN ?_ _ | with_reducible refine grown_alloc ?_ _ | with_reducible exact grown_refl _ _)), (by (repeat (with_reducible refine IM.setNew ?_ (by omega))); refine IM.setAt (a := a) ?_ _; refine IM.drewN ?_ _; exact IM.below hM.out (below_a1 _ _))⟩
end Go.Proofs.YtiopeheockajaaaDoor
