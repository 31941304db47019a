/- The program's deeds: what each of them does to the machine. -/
import Derived.Test.YtiopeheockajaaaDoorFol0
namespace Go.Proofs.YtiopeheockajaaaDoor
open Go.RowKit Go.ChangeShapes Go.WideShapes Go.Deep
set_option linter.unusedVariables false
set_option linter.unusedSimpArgs false

/-- What a deed leaves. -/
def DoOut (c : CarriageD) (s : StD) (x : ActD) (R : Nat) (w : World) (e : Ending) (w' : World) : Prop :=
  (actS c s x = none ∧ e = .returned (.agg #[.int .i64 evStop.place, .string evStop.letter, .bool evStop.rung, .bool evStop.stopped]) ∧ w.grownBy w' (some R) ∧ IM w' R c s.at_ s.free) ∨
  (∃ s', actS c s x = some s' ∧ e = .returned (.agg #[.int .i64 (evOf c s x).place, .string (evOf c s x).letter, .bool (evOf c s x).rung, .bool (evOf c s x).stopped]) ∧ w.grownBy w' (some R) ∧ IM w' R c s'.at_ s'.free)
theorem DoOut.no {c : CarriageD} {s : StD} {x : ActD} {R : Nat} {w w' : World} {e : Ending} (h : actS c s x = none) (he : e = .returned (.agg #[.int .i64 0, .string ⟨#[]⟩, .bool false, .bool true])) (hb : w.grownBy w' (some R)) (hm : IM w' R c s.at_ s.free) : DoOut c s x R w e w' := .inl ⟨h, he, hb, hm⟩
theorem DoOut.yes {c : CarriageD} {s s' : StD} {x : ActD} {R : Nat} {w w' : World} {e : Ending} (h : actS c s x = some s') {p : Int} {l : ByteArray} {r : Bool} (he : e = .returned (.agg #[.int .i64 p, .string l, .bool r, .bool false])) (hp : evOf c s x = ⟨p, l, r, false⟩) (hb : w.grownBy w' (some R)) (hm : IM w' R c s'.at_ s'.free) : DoOut c s x R w e w' := .inr ⟨s', h, by rw [he, hp], hb, hm⟩
theorem act_stop {c : CarriageD} {s : StD} {x : ActD} (hk : x.kind = 0 ∨ x.kind = 1 ∨ x.kind = 3) (h : stops c s.at_ s.free (stepOf x.kind)) : actS c s x = none := by
  unfold stops at h; unfold actS; rw [if_pos hk, if_pos h]
theorem act_go {c : CarriageD} {s : StD} {x : ActD} (hk : x.kind = 0 ∨ x.kind = 1 ∨ x.kind = 3) (h : ¬ stops c s.at_ s.free (stepOf x.kind)) : ∃ s', actS c s x = some s' ∧ s'.at_ = s.at_ + stepOf x.kind ∧ s'.free = s.free := by
  unfold stops at h; unfold actS; rw [if_pos hk, if_neg h]
  exact ⟨_, rfl, rfl, rfl⟩
theorem ev_block {w w1 : World} {d : Obj} (hb : Below ((w.alloc d).alloc (.cells #[Value.int .i64 0, .string ⟨#[]⟩, .bool false, .bool false] 68)).heap.size ((w.alloc d).alloc (.cells #[Value.int .i64 0, .string ⟨#[]⟩, .bool false, .bool false] 68)) w1) : w1.heap[w.heap.size + 1]? = some (.cells #[Value.int .i64 0, .string ⟨#[]⟩, .bool false, .bool false] 68) := by
  have h := own_block hb
  simpa using h
theorem ev_grown {w w1 : World} {d : Obj} {R : Nat} (hb : ((w.alloc d).alloc (.cells #[Value.int .i64 0, .string ⟨#[]⟩, .bool false, .bool false] 68)).grownBy w1 (some R)) (hR : R < w.heap.size) : w1.heap[w.heap.size + 1]? = some (.cells #[Value.int .i64 0, .string ⟨#[]⟩, .bool false, .bool false] 68) := by
  have h := hb.block (w.heap.size + 1) (by simp) (by simp; omega)
  rw [h]
  have h2 := heap_alloc_new (w.alloc d) (.cells #[Value.int .i64 0, .string ⟨#[]⟩, .bool false, .bool false] 68)
  simpa using h2
theorem put4 {w1 : World} {blk : Nat} {T : TypeId} {a0 a1 a2 a3 : Value} (v0 v1 v2 v3 : Value) (B : w1.heap[blk]? = some (.cells #[a0, a1, a2, a3] T)) :
    let wz := (((w1.setCell ⟨blk, 0, none⟩ v0).setCell ⟨blk, 1, none⟩ v1).setCell ⟨blk, 2, none⟩ v2).setCell ⟨blk, 3, none⟩ v3
    wz.cell? ⟨blk, 0, none⟩ = some v0 ∧ wz.cell? ⟨blk, 1, none⟩ = some v1 ∧ wz.cell? ⟨blk, 2, none⟩ = some v2 ∧ wz.cell? ⟨blk, 3, none⟩ = some v3 := by
  intro wz
  have hr : w1.rowIs blk T 4 (fun j => (#[a0, a1, a2, a3][j]?).getD undef) := ⟨_, B, rfl, fun i hi => by
    match i, hi with
    | 0, _ => rfl
    | 1, _ => rfl
    | 2, _ => rfl
    | 3, _ => rfl⟩
  have h4 := (((hr.set 0 v0).set 1 v1).set 2 v2).set 3 v3
  exact ⟨h4.cell (i := 0) (by omega), h4.cell (i := 1) (by omega), h4.cell (i := 2) (by omega), h4.cell (i := 3) (by omega)⟩
set_option maxRecDepth 100000 in
set_option maxHeartbeats 1600000 in
theorem do1 (c : CarriageD) (s : StD) (letter : ByteArray) (R : Nat) (w : World) (hM : IM w R c s.at_ s.free) (hs : 0 ≤ s.at_ ∧ s.at_ ≤ 300) (hcl : 0 ≤ c.left ∧ c.left ≤ 300) :
    Calls Tryd.prog 107 #[.agg #[], .pointer (some ⟨R, 0, none⟩)] w (DoOut c s ⟨1, letter⟩ R w) := by
  by_cases hst : stops c s.at_ s.free (stepOf 1)
  · have hact := Lib.hid (act_stop (x := ⟨1, letter⟩) (by simp) hst)
    have hcall := Lib.hid (fun W (hW : IM W R c s.at_ s.free) => goOn_stop c s.at_ s.free 2 R W hW hs (by omega) hst)
    have hRl := hM.lt
    replace hM := Lib.hid hM
    clear hst hs
    go_enter Tryd.func107, Tryd.ntmps107
    go_wp2_with fail
    refine (hcall.out _ (hM.out.below (below_a2 _ _ _))).mono ?_
    rintro e w1 ⟨rfl, hb1⟩
    have B := Lib.hid (ev_block hb1)
    have x0 : w1.cell? ⟨w.heap.size + 1, 0, none⟩ = some (.int .i64 0) := own_cell B.out (o := 0) rfl
    have z0 : w1.frozen? ⟨w.heap.size + 1, 0, none⟩ = false := own_frozen B.out 0
    have x1 : w1.cell? ⟨w.heap.size + 1, 1, none⟩ = some (.string ⟨#[]⟩) := own_cell B.out (o := 1) rfl
    have z1 : w1.frozen? ⟨w.heap.size + 1, 1, none⟩ = false := own_frozen B.out 1
    have x2 : w1.cell? ⟨w.heap.size + 1, 2, none⟩ = some (.bool false) := own_cell B.out (o := 2) rfl
    have z2 : w1.frozen? ⟨w.heap.size + 1, 2, none⟩ = false := own_frozen B.out 2
    have x3 : w1.cell? ⟨w.heap.size + 1, 3, none⟩ = some (.bool false) := own_cell B.out (o := 3) rfl
    have z3 : w1.frozen? ⟨w.heap.size + 1, 3, none⟩ = false := own_frozen B.out 3
    have hl := own_lt B.out
    have hB := Lib.hid ((below_a2 w _ _).step hb1)
    have hM1 := Lib.hid (hM.out.below hB.out)
    have hgr := grown_below hB.out (some R)
    have hz := hgr.size
    have P := Lib.hid (put4 (.int .i64 0) (.string ⟨#[]⟩) (.bool false) (.bool true) B.out)
    have hfin : Hid (w.grownBy ((((w1.setCell ⟨w.heap.size + 1, 0, none⟩ (.int .i64 0)).setCell ⟨w.heap.size + 1, 1, none⟩ (.string ⟨#[]⟩)).setCell ⟨w.heap.size + 1, 2, none⟩ (.bool false)).setCell ⟨w.heap.size + 1, 3, none⟩ (.bool true)) (some R) ∧ IM ((((w1.setCell ⟨w.heap.size + 1, 0, none⟩ (.int .i64 0)).setCell ⟨w.heap.size + 1, 1, none⟩ (.string ⟨#[]⟩)).setCell ⟨w.heap.size + 1, 2, none⟩ (.bool false)).setCell ⟨w.heap.size + 1, 3, none⟩ (.bool true)) R c s.at_ s.free) := Lib.hid ⟨(by repeat (first | with_reducible refine grown_setR ?_ | refine grown_setNew ?_ (by first | exact Nat.le_refl _ | (simp; omega) | simp | omega) | with_reducible refine grown_drewN ?_ _ | with_reducible refine grown_alloc ?_ _ | exact hgr | with_reducible exact grown_refl _ _)), (by (repeat (with_reducible refine IM.setNew ?_ (by omega))); exact hM1.out)⟩
    clear hB hb1 B hgr hM1
    go_wp2
    replace P := P.out
    generalize ((((w1.setCell ⟨w.heap.size + 1, 0, none⟩ (.int .i64 0)).setCell ⟨w.heap.size + 1, 1, none⟩ (.string ⟨#[]⟩)).setCell ⟨w.heap.size + 1, 2, none⟩ (.bool false)).setCell ⟨w.heap.size + 1, 3, none⟩ (.bool true)) = wz at *
    obtain ⟨y0, y1, y2, y3⟩ := P
    refine bodyPost_ret (v := .agg #[.int .i64 0, .string ⟨#[]⟩, .bool false, .bool true]) (by simp [results, Tryd.results107, go_sem, y0, y1, y2, y3]) rfl ?_
    exact DoOut.no hact.out rfl hfin.out.1 hfin.out.2
  · obtain ⟨s', ha, ha1, ha2⟩ := act_go (x := ⟨1, letter⟩) (by simp) hst
    have hact := Lib.hid ha
    have hcall := Lib.hid (fun W (hW : IM W R c s.at_ s.free) => goOn_go c s.at_ s.free 2 R W hW hs (by omega) hst)
    have hRl := hM.lt
    have hev : Hid (evOf c s ⟨1, letter⟩ = ⟨0, ⟨#[]⟩, decide (s.at_ < c.bell) && decide (c.bell ≤ s.at_ + 2), false⟩) := Lib.hid (by simp [evOf, stepOf])
    have hM2 : Hid (∀ W, IM W R c (s.at_ + 2) s.free → IM W R c s'.at_ s'.free) := Lib.hid (fun W h => by rw [ha1, ha2]; exact h)
    replace hM := Lib.hid hM
    clear hst hs ha ha1 ha2
    go_enter Tryd.func107, Tryd.ntmps107
    go_wp2_with fail
    refine (hcall.out _ (hM.out.below (below_a2 _ _ _))).mono ?_
    rintro e w1 ⟨rfl, hgr1, hM1⟩
    have B := Lib.hid (ev_grown hgr1 (by omega))
    have x0 : w1.cell? ⟨w.heap.size + 1, 0, none⟩ = some (.int .i64 0) := own_cell B.out (o := 0) rfl
    have z0 : w1.frozen? ⟨w.heap.size + 1, 0, none⟩ = false := own_frozen B.out 0
    have x1 : w1.cell? ⟨w.heap.size + 1, 1, none⟩ = some (.string ⟨#[]⟩) := own_cell B.out (o := 1) rfl
    have z1 : w1.frozen? ⟨w.heap.size + 1, 1, none⟩ = false := own_frozen B.out 1
    have x2 : w1.cell? ⟨w.heap.size + 1, 2, none⟩ = some (.bool false) := own_cell B.out (o := 2) rfl
    have z2 : w1.frozen? ⟨w.heap.size + 1, 2, none⟩ = false := own_frozen B.out 2
    have x3 : w1.cell? ⟨w.heap.size + 1, 3, none⟩ = some (.bool false) := own_cell B.out (o := 3) rfl
    have z3 : w1.frozen? ⟨w.heap.size + 1, 3, none⟩ = false := own_frozen B.out 3
    have hl := own_lt B.out
    generalize hbb : (decide (s.at_ < c.bell) && decide (c.bell ≤ s.at_ + 2)) = bb at *
    replace hbb := Lib.hid hbb
    have hgr : w.grownBy w1 (some R) := grown_trans (grown_below (below_a2 w _ _) _) hgr1
    have hz := hgr.size
    replace hM1 := Lib.hid (hM2.out w1 hM1)
    have P := Lib.hid (put4 (.int .i64 0) (.string ⟨#[]⟩) (.bool bb) (.bool false) B.out)
    have hfin : Hid (w.grownBy ((((w1.setCell ⟨w.heap.size + 1, 0, none⟩ (.int .i64 0)).setCell ⟨w.heap.size + 1, 1, none⟩ (.string ⟨#[]⟩)).setCell ⟨w.heap.size + 1, 2, none⟩ (.bool bb)).setCell ⟨w.heap.size + 1, 3, none⟩ (.bool false)) (some R) ∧ IM ((((w1.setCell ⟨w.heap.size + 1, 0, none⟩ (.int .i64 0)).setCell ⟨w.heap.size + 1, 1, none⟩ (.string ⟨#[]⟩)).setCell ⟨w.heap.size + 1, 2, none⟩ (.bool bb)).setCell ⟨w.heap.size + 1, 3, none⟩ (.bool false)) R c s'.at_ s'.free) := Lib.hid ⟨(by repeat (first | with_reducible refine grown_setR ?_ | refine grown_setNew ?_ (by first | exact Nat.le_refl _ | (simp; omega) | simp | omega) | with_reducible refine grown_drewN ?_ _ | with_reducible refine grown_alloc ?_ _ | exact hgr | with_reducible exact grown_refl _ _)), (by (repeat (with_reducible refine IM.setNew ?_ (by omega))); exact hM1.out)⟩
    clear B hgr hgr1 hM1 hM2
    go_wp2
    replace P := P.out
    generalize ((((w1.setCell ⟨w.heap.size + 1, 0, none⟩ (.int .i64 0)).setCell ⟨w.heap.size + 1, 1, none⟩ (.string ⟨#[]⟩)).setCell ⟨w.heap.size + 1, 2, none⟩ (.bool bb)).setCell ⟨w.heap.size + 1, 3, none⟩ (.bool false)) = wz at *
    obtain ⟨y0, y1, y2, y3⟩ := P
    refine bodyPost_ret (v := .agg #[.int .i64 0, .string ⟨#[]⟩, .bool bb, .bool false]) (by simp [results, Tryd.results107, go_sem, y0, y1, y2, y3]) rfl ?_
    exact DoOut.yes hact.out rfl hev.out hfin.out.1 hfin.out.2
set_option maxRecDepth 100000 in
set_option maxHeartbeats 1600000 in
theorem do3 (c : CarriageD) (s : StD) (letter : ByteArray) (R : Nat) (w : World) (hM : IM w R c s.at_ s.free) (hs : 0 ≤ s.at_ ∧ s.at_ ≤ 300) (hcl : 0 ≤ c.left ∧ c.left ≤ 300) :
    Calls Tryd.prog 111 #[.agg #[], .pointer (some ⟨R, 0, none⟩)] w (DoOut c s ⟨3, letter⟩ R w) := by
  by_cases hst : stops c s.at_ s.free (stepOf 3)
  · have hact := Lib.hid (act_stop (x := ⟨3, letter⟩) (by simp) hst)
    have hcall := Lib.hid (fun W (hW : IM W R c s.at_ s.free) => goOn_stop c s.at_ s.free 1 R W hW hs (by omega) hst)
    have hRl := hM.lt
    replace hM := Lib.hid hM
    clear hst hs
    go_enter Tryd.func111, Tryd.ntmps111
    go_wp2_with fail
    refine (hcall.out _ (hM.out.below (below_a2 _ _ _))).mono ?_
    rintro e w1 ⟨rfl, hb1⟩
    have B := Lib.hid (ev_block hb1)
    have x0 : w1.cell? ⟨w.heap.size + 1, 0, none⟩ = some (.int .i64 0) := own_cell B.out (o := 0) rfl
    have z0 : w1.frozen? ⟨w.heap.size + 1, 0, none⟩ = false := own_frozen B.out 0
    have x1 : w1.cell? ⟨w.heap.size + 1, 1, none⟩ = some (.string ⟨#[]⟩) := own_cell B.out (o := 1) rfl
    have z1 : w1.frozen? ⟨w.heap.size + 1, 1, none⟩ = false := own_frozen B.out 1
    have x2 : w1.cell? ⟨w.heap.size + 1, 2, none⟩ = some (.bool false) := own_cell B.out (o := 2) rfl
    have z2 : w1.frozen? ⟨w.heap.size + 1, 2, none⟩ = false := own_frozen B.out 2
    have x3 : w1.cell? ⟨w.heap.size + 1, 3, none⟩ = some (.bool false) := own_cell B.out (o := 3) rfl
    have z3 : w1.frozen? ⟨w.heap.size + 1, 3, none⟩ = false := own_frozen B.out 3
    have hl := own_lt B.out
    have hB := Lib.hid ((below_a2 w _ _).step hb1)
    have hM1 := Lib.hid (hM.out.below hB.out)
    have hgr := grown_below hB.out (some R)
    have hz := hgr.size
    have P := Lib.hid (put4 (.int .i64 0) (.string ⟨#[]⟩) (.bool false) (.bool true) B.out)
    have hfin : Hid (w.grownBy ((((w1.setCell ⟨w.heap.size + 1, 0, none⟩ (.int .i64 0)).setCell ⟨w.heap.size + 1, 1, none⟩ (.string ⟨#[]⟩)).setCell ⟨w.heap.size + 1, 2, none⟩ (.bool false)).setCell ⟨w.heap.size + 1, 3, none⟩ (.bool true)) (some R) ∧ IM ((((w1.setCell ⟨w.heap.size + 1, 0, none⟩ (.int .i64 0)).setCell ⟨w.heap.size + 1, 1, none⟩ (.string ⟨#[]⟩)).setCell ⟨w.heap.size + 1, 2, none⟩ (.bool false)).setCell ⟨w.heap.size + 1, 3, none⟩ (.bool true)) R c s.at_ s.free) := Lib.hid ⟨(by repeat (first | with_reducible refine grown_setR ?_ | refine grown_setNew ?_ (by first | exact Nat.le_refl _ | (simp; omega) | simp | omega) | with_reducible refine grown_drewN ?_ _ | with_reducible refine grown_alloc ?_ _ | exact hgr | with_reducible exact grown_refl _ _)), (by (repeat (with_reducible refine IM.setNew ?_ (by omega))); exact hM1.out)⟩
    clear hB hb1 B hgr hM1
    go_wp2
    replace P := P.out
    generalize ((((w1.setCell ⟨w.heap.size + 1, 0, none⟩ (.int .i64 0)).setCell ⟨w.heap.size + 1, 1, none⟩ (.string ⟨#[]⟩)).setCell ⟨w.heap.size + 1, 2, none⟩ (.bool false)).setCell ⟨w.heap.size + 1, 3, none⟩ (.bool true)) = wz at *
    obtain ⟨y0, y1, y2, y3⟩ := P
    refine bodyPost_ret (v := .agg #[.int .i64 0, .string ⟨#[]⟩, .bool false, .bool true]) (by simp [results, Tryd.results111, go_sem, y0, y1, y2, y3]) rfl ?_
    exact DoOut.no hact.out rfl hfin.out.1 hfin.out.2
  · obtain ⟨s', ha, ha1, ha2⟩ := act_go (x := ⟨3, letter⟩) (by simp) hst
    have hact := Lib.hid ha
    have hcall := Lib.hid (fun W (hW : IM W R c s.at_ s.free) => goOn_go c s.at_ s.free 1 R W hW hs (by omega) hst)
    have hRl := hM.lt
    have hev : Hid (evOf c s ⟨3, letter⟩ = ⟨0, ⟨#[]⟩, decide (s.at_ < c.bell) && decide (c.bell ≤ s.at_ + 1), false⟩) := Lib.hid (by simp [evOf, stepOf])
    have hM2 : Hid (∀ W, IM W R c (s.at_ + 1) s.free → IM W R c s'.at_ s'.free) := Lib.hid (fun W h => by rw [ha1, ha2]; exact h)
    replace hM := Lib.hid hM
    clear hst hs ha ha1 ha2
    go_enter Tryd.func111, Tryd.ntmps111
    go_wp2_with fail
    refine (hcall.out _ (hM.out.below (below_a2 _ _ _))).mono ?_
    rintro e w1 ⟨rfl, hgr1, hM1⟩
    have B := Lib.hid (ev_grown hgr1 (by omega))
    have x0 : w1.cell? ⟨w.heap.size + 1, 0, none⟩ = some (.int .i64 0) := own_cell B.out (o := 0) rfl
    have z0 : w1.frozen? ⟨w.heap.size + 1, 0, none⟩ = false := own_frozen B.out 0
    have x1 : w1.cell? ⟨w.heap.size + 1, 1, none⟩ = some (.string ⟨#[]⟩) := own_cell B.out (o := 1) rfl
    have z1 : w1.frozen? ⟨w.heap.size + 1, 1, none⟩ = false := own_frozen B.out 1
    have x2 : w1.cell? ⟨w.heap.size + 1, 2, none⟩ = some (.bool false) := own_cell B.out (o := 2) rfl
    have z2 : w1.frozen? ⟨w.heap.size + 1, 2, none⟩ = false := own_frozen B.out 2
    have x3 : w1.cell? ⟨w.heap.size + 1, 3, none⟩ = some (.bool false) := own_cell B.out (o := 3) rfl
    have z3 : w1.frozen? ⟨w.heap.size + 1, 3, none⟩ = false := own_frozen B.out 3
    have hl := own_lt B.out
    generalize hbb : (decide (s.at_ < c.bell) && decide (c.bell ≤ s.at_ + 1)) = bb at *
    replace hbb := Lib.hid hbb
    have hgr : w.grownBy w1 (some R) := grown_trans (grown_below (below_a2 w _ _) _) hgr1
    have hz := hgr.size
    replace hM1 := Lib.hid (hM2.out w1 hM1)
    have P := Lib.hid (put4 (.int .i64 0) (.string ⟨#[]⟩) (.bool bb) (.bool false) B.out)
    have hfin : Hid (w.grownBy ((((w1.setCell ⟨w.heap.size + 1, 0, none⟩ (.int .i64 0)).setCell ⟨w.heap.size + 1, 1, none⟩ (.string ⟨#[]⟩)).setCell ⟨w.heap.size + 1, 2, none⟩ (.bool bb)).setCell ⟨w.heap.size + 1, 3, none⟩ (.bool false)) (some R) ∧ IM ((((w1.setCell ⟨w.heap.size + 1, 0, none⟩ (.int .i64 0)).setCell ⟨w.heap.size + 1, 1, none⟩ (.string ⟨#[]⟩)).setCell ⟨w.heap.size + 1, 2, none⟩ (.bool bb)).setCell ⟨w.heap.size + 1, 3, none⟩ (.bool false)) R c s'.at_ s'.free) := Lib.hid ⟨(by repeat (first | with_reducible refine grown_setR ?_ | refine grown_setNew ?_ (by first | exact Nat.le_refl _ | (simp; omega) | simp | omega) | with_reducible refine grown_drewN ?_ _ | with_reducible refine grown_alloc ?_ _ | exact hgr | with_reducible exact grown_refl _ _)), (by (repeat (with_reducible refine IM.setNew ?_ (by omega))); exact hM1.out)⟩
    clear B hgr hgr1 hM1 hM2
    go_wp2
    replace P := P.out
    generalize ((((w1.setCell ⟨w.heap.size + 1, 0, none⟩ (.int .i64 0)).setCell ⟨w.heap.size + 1, 1, none⟩ (.string ⟨#[]⟩)).setCell ⟨w.heap.size + 1, 2, none⟩ (.bool bb)).setCell ⟨w.heap.size + 1, 3, none⟩ (.bool false)) = wz at *
    obtain ⟨y0, y1, y2, y3⟩ := P
    refine bodyPost_ret (v := .agg #[.int .i64 0, .string ⟨#[]⟩, .bool bb, .bool false]) (by simp [results, Tryd.results111, go_sem, y0, y1, y2, y3]) rfl ?_
    exact DoOut.yes hact.out rfl hev.out hfin.out.1 hfin.out.2
end Go.Proofs.YtiopeheockajaaaDoor
