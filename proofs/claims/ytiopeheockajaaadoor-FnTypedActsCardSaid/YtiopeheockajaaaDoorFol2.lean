/- The program's deeds: what each of them does to the machine. -/
import Derived.Test.YtiopeheockajaaaDoorFol1
namespace Go.Proofs.YtiopeheockajaaaDoor
open Go.RowKit Go.ChangeShapes Go.WideShapes Go.Deep
set_option linter.unusedVariables false
set_option linter.unusedSimpArgs false

set_option maxRecDepth 100000 in
set_option maxHeartbeats 1600000 in
theorem do2 (c : CarriageD) (s : StD) (letter : ByteArray) (R : Nat) (w : World) (hM : IM w R c s.at_ s.free) (hs : 0 ≤ s.at_ ∧ s.at_ ≤ 300) (hcl : 0 ≤ c.left ∧ c.left ≤ 300) :
    Calls Tryd.prog 109 #[.agg #[], .pointer (some ⟨R, 0, none⟩)] w (DoOut c s ⟨2, letter⟩ R w) := by
  have hact : Hid (actS c s ⟨2, letter⟩ = some ⟨max 0 (s.at_ - 2), s.free, s.bells, s.out⟩) := Lib.hid (by simp [actS])
  have hev : Hid (evOf c s ⟨2, letter⟩ = ⟨0, ⟨#[]⟩, false, false⟩) := Lib.hid (by simp [evOf, stepOf])
  obtain ⟨d0, d1, d2, d3, d4⟩ := hM.cells
  have hRlt := hM.lt
  have f3 := hM.frozen 3
  have f4 := hM.frozen 4
  obtain ⟨s0, s1⟩ := hs
  obtain ⟨l0, l1⟩ := hcl
  replace hM := Lib.hid hM
  go_enter Tryd.func109, Tryd.ntmps109
  go_wp2
  · refine bodyPost_ret (v := .agg #[.int .i64 0, .string ⟨#[]⟩, .bool false, .bool false]) (by simp [results, Tryd.results109, go_sem]) rfl ?_
    have e : max 0 (s.at_ - 2) = s.at_ - 2 := by omega
    exact DoOut.yes hact.out rfl hev.out (grown_alloc (grown_alloc grown_set _) _) (by show IM _ R c (max 0 (s.at_ - 2)) s.free; rw [e]; exact (hM.out.setAt (s.at_ - 2)).below (below_a2 _ _ _))
  · refine bodyPost_ret (v := .agg #[.int .i64 0, .string ⟨#[]⟩, .bool false, .bool false]) (by simp [results, Tryd.results109, go_sem]) rfl ?_
    have e : max 0 (s.at_ - 2) = 0 := by omega
    exact DoOut.yes hact.out rfl hev.out (grown_alloc (grown_alloc grown_set _) _) (by show IM _ R c (max 0 (s.at_ - 2)) s.free; rw [e]; exact (hM.out.setAt 0).below (below_a2 _ _ _))
set_option maxRecDepth 100000 in
set_option maxHeartbeats 1600000 in
theorem do4 (c : CarriageD) (s : StD) (letter : ByteArray) (R : Nat) (w : World) (hM : IM w R c s.at_ s.free) (hs : 0 ≤ s.at_ ∧ s.at_ ≤ 300) (hcl : 0 ≤ c.left ∧ c.left ≤ 300) :
    Calls Tryd.prog 113 #[.agg #[], .pointer (some ⟨R, 0, none⟩)] w (DoOut c s ⟨4, letter⟩ R w) := by
  have hact : Hid (actS c s ⟨4, letter⟩ = some ⟨s.at_, true, s.bells, s.out⟩) := Lib.hid (by simp [actS])
  have hev : Hid (evOf c s ⟨4, letter⟩ = ⟨0, ⟨#[]⟩, false, false⟩) := Lib.hid (by simp [evOf, stepOf])
  obtain ⟨d0, d1, d2, d3, d4⟩ := hM.cells
  have hRlt := hM.lt
  have f3 := hM.frozen 3
  have f4 := hM.frozen 4
  obtain ⟨s0, s1⟩ := hs
  obtain ⟨l0, l1⟩ := hcl
  replace hM := Lib.hid hM
  go_enter Tryd.func113, Tryd.ntmps113
  go_wp2
  refine bodyPost_ret (v := .agg #[.int .i64 0, .string ⟨#[]⟩, .bool false, .bool false]) (by simp [results, Tryd.results113, go_sem]) rfl ?_
  exact DoOut.yes hact.out rfl hev.out (grown_alloc (grown_alloc grown_set _) _) ((hM.out.setFree true).below (below_a2 _ _ _))
set_option maxRecDepth 100000 in
set_option maxHeartbeats 1600000 in
theorem do5 (c : CarriageD) (s : StD) (letter : ByteArray) (R : Nat) (w : World) (hM : IM w R c s.at_ s.free) (hs : 0 ≤ s.at_ ∧ s.at_ ≤ 300) (hcl : 0 ≤ c.left ∧ c.left ≤ 300) :
    Calls Tryd.prog 115 #[.agg #[], .pointer (some ⟨R, 0, none⟩)] w (DoOut c s ⟨5, letter⟩ R w) := by
  have hact : Hid (actS c s ⟨5, letter⟩ = some ⟨c.left, false, s.bells, s.out⟩) := Lib.hid (by simp [actS])
  have hev : Hid (evOf c s ⟨5, letter⟩ = ⟨0, ⟨#[]⟩, false, false⟩) := Lib.hid (by simp [evOf, stepOf])
  obtain ⟨d0, d1, d2, d3, d4⟩ := hM.cells
  have hRlt := hM.lt
  have f3 := hM.frozen 3
  have f4 := hM.frozen 4
  obtain ⟨s0, s1⟩ := hs
  obtain ⟨l0, l1⟩ := hcl
  replace hM := Lib.hid hM
  go_enter Tryd.func115, Tryd.ntmps115
  go_wp2
  refine bodyPost_ret (v := .agg #[.int .i64 0, .string ⟨#[]⟩, .bool false, .bool false]) (by simp [results, Tryd.results115, go_sem]) rfl ?_
  exact DoOut.yes hact.out rfl hev.out (grown_alloc (grown_alloc (grown_trans grown_set grown_set) _) _) (((hM.out.setAt c.left).setFree false).below (below_a2 _ _ _))
set_option maxRecDepth 100000 in
set_option maxHeartbeats 1600000 in
theorem do0 (c : CarriageD) (s : StD) (letter : ByteArray) (R : Nat) (w : World) (hM : IM w R c s.at_ s.free) (hs : 0 ≤ s.at_ ∧ s.at_ ≤ 300) (hcl : 0 ≤ c.left ∧ c.left ≤ 300) :
    Calls Tryd.prog 105 #[.agg #[.string letter], .pointer (some ⟨R, 0, none⟩)] w (DoOut c s ⟨0, letter⟩ R w) := by
  obtain ⟨d0, d1, d2, d3, d4⟩ := hM.cells
  have hRlt := hM.lt
  have hst : stepOf 0 = 2 := by decide
  by_cases hst : stops c s.at_ s.free (stepOf 0)
  · have hact := Lib.hid (act_stop (x := ⟨0, letter⟩) (by simp) hst)
    have hcall := Lib.hid (fun W (hW : IM W R c s.at_ s.free) => goOn_stop c s.at_ s.free 2 R W hW hs (by omega) hst)
    replace hM := Lib.hid hM
    clear hst hs
    go_enter Tryd.func105, Tryd.ntmps105
    go_wp2_with fail
    refine wp_region_held_drew (S := fun w' => w'.cell? ⟨R, 3, none⟩ = some (.int .i64 s.at_) ∧ w'.cell? ⟨w.heap.size, 0, none⟩ = some (.string letter)) (by kernel_rfl) ?_ (fun hHeld => ?_)
    · exact ⟨cell_on (cell_on d3 _) _, cell_on (cell_new rfl rfl) _⟩
    refine wpAnyH_take (i := 0) (v := ?v0) rfl (by kernel_rfl) (by kernel_rfl) (by kernel_rfl) (fun _ _ _ h => h) (Or.inl ⟨rfl, ?y0⟩) (by assumption) ?_
    case y0 => (intro w hSw; (try dsimp only at hSw); go_simp; first | done | with_reducible rfl)
    simp only [List.getElem_toArray, List.getElem_cons_succ, List.getElem_cons_zero, Act.put, List.setIfInBounds_toArray, List.set_cons_zero, List.set_cons_succ]
    refine wpAnyH_take (i := 1) (v := ?v1) rfl (by kernel_rfl) (by kernel_rfl) (by kernel_rfl) (fun _ _ _ h => h) (Or.inl ⟨rfl, ?y1⟩) (by assumption) ?_
    case y1 => (intro w hSw; (try dsimp only at hSw); go_simp; first | done | with_reducible rfl)
    simp only [List.getElem_toArray, List.getElem_cons_succ, List.getElem_cons_zero, Act.put, List.setIfInBounds_toArray, List.set_cons_zero, List.set_cons_succ]
    refine wpAnyH_take (i := 2) (v := ?v2) rfl (by kernel_rfl) (by kernel_rfl) (by kernel_rfl) (fun _ _ _ h => h) (Or.inl ⟨rfl, ?y2⟩) (by assumption) ?_
    case y2 => (intro w hSw; (try dsimp only at hSw); go_simp; first | done | with_reducible rfl)
    simp only [List.getElem_toArray, List.getElem_cons_succ, List.getElem_cons_zero, Act.put, List.setIfInBounds_toArray, List.set_cons_zero, List.set_cons_succ]
    refine wpAnyH_take (i := 3) (v := ?v3) rfl (by kernel_rfl) (by kernel_rfl) (by kernel_rfl) (fun _ _ _ h => h) (Or.inl ⟨rfl, ?y3⟩) (by assumption) ?_
    case y3 => (intro w hSw; (try dsimp only at hSw); go_simp; first | done | with_reducible rfl)
    simp only [List.getElem_toArray, List.getElem_cons_succ, List.getElem_cons_zero, Act.put, List.setIfInBounds_toArray, List.set_cons_zero, List.set_cons_succ]
    refine wpAnyH_take (i := 4) (v := ?v4) rfl (by kernel_rfl) (by kernel_rfl) (by kernel_rfl) (fun _ _ _ h => h) (Or.inl ⟨rfl, ?y4⟩) (by assumption) ?_
    case y4 => (intro w hSw; (try dsimp only at hSw); go_simp; first | done | with_reducible rfl)
    simp only [List.getElem_toArray, List.getElem_cons_succ, List.getElem_cons_zero, Act.put, List.setIfInBounds_toArray, List.set_cons_zero, List.set_cons_succ]
    refine wpAnyH_take (i := 5) (v := ?v5) rfl (by kernel_rfl) (by kernel_rfl) (by kernel_rfl) (fun _ _ _ h => h) (Or.inl ⟨rfl, ?y5⟩) (by assumption) ?_
    case y5 => (intro w hSw; (try dsimp only at hSw); go_simp; first | done | with_reducible rfl)
    simp only [List.getElem_toArray, List.getElem_cons_succ, List.getElem_cons_zero, Act.put, List.setIfInBounds_toArray, List.set_cons_zero, List.set_cons_succ]
    refine wpAnyH_take (i := 6) (v := ?v6) rfl (by kernel_rfl) (by kernel_rfl) (by kernel_rfl) (fun _ _ _ h => h) (Or.inl ⟨rfl, ?y6⟩) (by assumption) ?_
    case y6 => (intro w hSw; (try dsimp only at hSw); go_simp; first | done | with_reducible rfl)
    simp only [List.getElem_toArray, List.getElem_cons_succ, List.getElem_cons_zero, Act.put, List.setIfInBounds_toArray, List.set_cons_zero, List.set_cons_succ]
    refine wpAnyH_ready (rs := [7]) (by kernel_rfl) (by simp) ?_
    refine AllReadyH.cons rfl (fun K hK => ?_) AllReadyH.nil
    go_simp
    refine hK.out _ _ ?_ (fun hHeld => ?_)
    · exact ⟨cell_on hHeld.1 _, cell_on hHeld.2 _⟩
    clear hK K
    try simp only [List.getElem_toArray, List.getElem_cons_succ, List.getElem_cons_zero, Act.put, List.setIfInBounds_toArray, List.set_cons_zero, List.set_cons_succ]
    refine wpAnyH_ready (rs := [8]) (by kernel_rfl) (by simp) ?_
    refine AllReadyH.cons rfl (fun K hK => ?_) AllReadyH.nil
    go_simp
    refine hK.out _ _ ?_ (fun hHeld => ?_)
    · exact ⟨cell_on (cell_on (cell_on d3 _) _) _, cell_on (cell_on (cell_new rfl rfl) _) _⟩
    clear hK K
    try simp only [List.getElem_toArray, List.getElem_cons_succ, List.getElem_cons_zero, Act.put, List.setIfInBounds_toArray, List.set_cons_zero, List.set_cons_succ]
    refine wpAnyH_done (by kernel_rfl) ?_ _
    have hB3 : Below w.heap.size w (((w.alloc (.cells #[.string letter] 108)).alloc (.cells #[Value.int .i64 0, .string ⟨#[]⟩, .bool false, .bool false] 68)).alloc (.cells #[.int .i64 s.at_, .string letter] 66)).drew := (below_a3 _ _ _ _).drew
    have B3 : (((w.alloc (.cells #[.string letter] 108)).alloc (.cells #[Value.int .i64 0, .string ⟨#[]⟩, .bool false, .bool false] 68)).alloc (.cells #[.int .i64 s.at_, .string letter] 66)).drew.heap[w.heap.size + 1]? = some (.cells #[Value.int .i64 0, .string ⟨#[]⟩, .bool false, .bool false] 68) := ((below_a1 ((w.alloc (.cells #[.string letter] 108)).alloc (.cells #[Value.int .i64 0, .string ⟨#[]⟩, .bool false, .bool false] 68)) (.cells #[.int .i64 s.at_, .string letter] 66)).block (w.heap.size + 1) (by simp)).trans (ev_block (Below.refl _ _))
    have p0 : (((w.alloc (.cells #[.string letter] 108)).alloc (.cells #[Value.int .i64 0, .string ⟨#[]⟩, .bool false, .bool false] 68)).alloc (.cells #[.int .i64 s.at_, .string letter] 66)).drew.cell? ⟨w.heap.size + 1 + 1, 0, none⟩ = some (.int .i64 s.at_) := cell_new (by simp) rfl
    have p1 : (((w.alloc (.cells #[.string letter] 108)).alloc (.cells #[Value.int .i64 0, .string ⟨#[]⟩, .bool false, .bool false] 68)).alloc (.cells #[.int .i64 s.at_, .string letter] 66)).drew.cell? ⟨w.heap.size + 1 + 1, 1, none⟩ = some (.string letter) := cell_new (by simp) rfl
    clear hHeld
    generalize (((w.alloc (.cells #[.string letter] 108)).alloc (.cells #[Value.int .i64 0, .string ⟨#[]⟩, .bool false, .bool false] 68)).alloc (.cells #[.int .i64 s.at_, .string letter] 66)).drew = w3 at *
    have hz3 := own_lt B3
    have hM3 := hM.out.below hB3
    go_wp2_with fail
    refine (hcall.out _ hM3).mono ?_
    rintro e w1 ⟨rfl, hb1⟩
    have B := Lib.hid ((hb1.block (w.heap.size + 1) hz3).trans B3)
    have hB := Lib.hid (hB3.step hb1)
    have hM1 := Lib.hid (hM3.below hb1)
    have hgr := grown_below hB.out (some R)
    have hz := hgr.size
    clear hB3 B3 hM3 hB hb1
    have x0 : w1.cell? ⟨w.heap.size + 1, 0, none⟩ = some (.int .i64 0) := own_cell B.out (o := 0) rfl
    have z0 : w1.frozen? ⟨w.heap.size + 1, 0, none⟩ = false := own_frozen B.out 0
    have x1 : w1.cell? ⟨w.heap.size + 1, 1, none⟩ = some (.string ⟨#[]⟩) := own_cell B.out (o := 1) rfl
    have z1 : w1.frozen? ⟨w.heap.size + 1, 1, none⟩ = false := own_frozen B.out 1
    have x2 : w1.cell? ⟨w.heap.size + 1, 2, none⟩ = some (.bool false) := own_cell B.out (o := 2) rfl
    have z2 : w1.frozen? ⟨w.heap.size + 1, 2, none⟩ = false := own_frozen B.out 2
    have x3 : w1.cell? ⟨w.heap.size + 1, 3, none⟩ = some (.bool false) := own_cell B.out (o := 3) rfl
    have z3 : w1.frozen? ⟨w.heap.size + 1, 3, none⟩ = false := own_frozen B.out 3
    have hl := own_lt B.out
    have P := Lib.hid (put4 (.int .i64 0) (.string ⟨#[]⟩) (.bool false) (.bool true) B.out)
    have hfin : Hid (w.grownBy ((((w1.setCell ⟨w.heap.size + 1, 0, none⟩ (.int .i64 0)).setCell ⟨w.heap.size + 1, 1, none⟩ (.string ⟨#[]⟩)).setCell ⟨w.heap.size + 1, 2, none⟩ (.bool false)).setCell ⟨w.heap.size + 1, 3, none⟩ (.bool true)) (some R) ∧ IM ((((w1.setCell ⟨w.heap.size + 1, 0, none⟩ (.int .i64 0)).setCell ⟨w.heap.size + 1, 1, none⟩ (.string ⟨#[]⟩)).setCell ⟨w.heap.size + 1, 2, none⟩ (.bool false)).setCell ⟨w.heap.size + 1, 3, none⟩ (.bool true)) R c (s.at_) (s.free)) := Lib.hid ⟨(by repeat (first | with_reducible refine grown_setR ?_ | refine grown_setNew ?_ (by first | exact Nat.le_refl _ | (simp; omega) | simp | omega) | with_reducible refine grown_drewN ?_ _ | with_reducible refine grown_alloc ?_ _ | exact hgr | with_reducible exact grown_refl _ _)), (by (repeat (with_reducible refine IM.setNew ?_ (by omega))); exact hM1.out)⟩
    clear B hgr hM1
    go_wp2
    replace P := P.out
    generalize ((((w1.setCell ⟨w.heap.size + 1, 0, none⟩ (.int .i64 0)).setCell ⟨w.heap.size + 1, 1, none⟩ (.string ⟨#[]⟩)).setCell ⟨w.heap.size + 1, 2, none⟩ (.bool false)).setCell ⟨w.heap.size + 1, 3, none⟩ (.bool true)) = wz at *
    obtain ⟨y0, y1, y2, y3⟩ := P
    have Y := fun o => (⟨cell_on y0 o, cell_on y1 o, cell_on y2 o, cell_on y3 o⟩ : (wz.alloc o).cell? _ = _ ∧ (wz.alloc o).cell? _ = _ ∧ (wz.alloc o).cell? _ = _ ∧ (wz.alloc o).cell? _ = _)
    refine bodyPost_ret (v := .agg #[.int .i64 0, .string ⟨#[]⟩, .bool false, .bool true]) (by simp [results, Tryd.results105, go_sem, Y]) rfl ?_
    exact DoOut.no hact.out rfl (grown_alloc hfin.out.1 _) (hfin.out.2.below (below_a1 _ _))
  · obtain ⟨s', ha, ha1, ha2⟩ := act_go (x := ⟨0, letter⟩) (by simp) hst
    have hact := Lib.hid ha
    have hcall := Lib.hid (fun W (hW : IM W R c s.at_ s.free) => goOn_go c s.at_ s.free 2 R W hW hs (by omega) hst)
    have hev : Hid (evOf c s ⟨0, letter⟩ = ⟨s.at_, letter, decide (s.at_ < c.bell) && decide (c.bell ≤ s.at_ + 2), false⟩) := Lib.hid (by simp [evOf, stepOf])
    have hM2 : Hid (∀ W, IM W R c (s.at_ + 2) s.free → IM W R c s'.at_ s'.free) := Lib.hid (fun W h => by rw [ha1, ha2]; exact h)
    replace hM := Lib.hid hM
    clear hst hs ha ha1 ha2
    go_enter Tryd.func105, Tryd.ntmps105
    go_wp2_with fail
    refine wp_region_held_drew (S := fun w' => w'.cell? ⟨R, 3, none⟩ = some (.int .i64 s.at_) ∧ w'.cell? ⟨w.heap.size, 0, none⟩ = some (.string letter)) (by kernel_rfl) ?_ (fun hHeld => ?_)
    · exact ⟨cell_on (cell_on d3 _) _, cell_on (cell_new rfl rfl) _⟩
    refine wpAnyH_take (i := 0) (v := ?v0) rfl (by kernel_rfl) (by kernel_rfl) (by kernel_rfl) (fun _ _ _ h => h) (Or.inl ⟨rfl, ?y0⟩) (by assumption) ?_
    case y0 => (intro w hSw; (try dsimp only at hSw); go_simp; first | done | with_reducible rfl)
    simp only [List.getElem_toArray, List.getElem_cons_succ, List.getElem_cons_zero, Act.put, List.setIfInBounds_toArray, List.set_cons_zero, List.set_cons_succ]
    refine wpAnyH_take (i := 1) (v := ?v1) rfl (by kernel_rfl) (by kernel_rfl) (by kernel_rfl) (fun _ _ _ h => h) (Or.inl ⟨rfl, ?y1⟩) (by assumption) ?_
    case y1 => (intro w hSw; (try dsimp only at hSw); go_simp; first | done | with_reducible rfl)
    simp only [List.getElem_toArray, List.getElem_cons_succ, List.getElem_cons_zero, Act.put, List.setIfInBounds_toArray, List.set_cons_zero, List.set_cons_succ]
    refine wpAnyH_take (i := 2) (v := ?v2) rfl (by kernel_rfl) (by kernel_rfl) (by kernel_rfl) (fun _ _ _ h => h) (Or.inl ⟨rfl, ?y2⟩) (by assumption) ?_
    case y2 => (intro w hSw; (try dsimp only at hSw); go_simp; first | done | with_reducible rfl)
    simp only [List.getElem_toArray, List.getElem_cons_succ, List.getElem_cons_zero, Act.put, List.setIfInBounds_toArray, List.set_cons_zero, List.set_cons_succ]
    refine wpAnyH_take (i := 3) (v := ?v3) rfl (by kernel_rfl) (by kernel_rfl) (by kernel_rfl) (fun _ _ _ h => h) (Or.inl ⟨rfl, ?y3⟩) (by assumption) ?_
    case y3 => (intro w hSw; (try dsimp only at hSw); go_simp; first | done | with_reducible rfl)
    simp only [List.getElem_toArray, List.getElem_cons_succ, List.getElem_cons_zero, Act.put, List.setIfInBounds_toArray, List.set_cons_zero, List.set_cons_succ]
    refine wpAnyH_take (i := 4) (v := ?v4) rfl (by kernel_rfl) (by kernel_rfl) (by kernel_rfl) (fun _ _ _ h => h) (Or.inl ⟨rfl, ?y4⟩) (by assumption) ?_
    case y4 => (intro w hSw; (try dsimp only at hSw); go_simp; first | done | with_reducible rfl)
    simp only [List.getElem_toArray, List.getElem_cons_succ, List.getElem_cons_zero, Act.put, List.setIfInBounds_toArray, List.set_cons_zero, List.set_cons_succ]
    refine wpAnyH_take (i := 5) (v := ?v5) rfl (by kernel_rfl) (by kernel_rfl) (by kernel_rfl) (fun _ _ _ h => h) (Or.inl ⟨rfl, ?y5⟩) (by assumption) ?_
    case y5 => (intro w hSw; (try dsimp only at hSw); go_simp; first | done | with_reducible rfl)
    simp only [List.getElem_toArray, List.getElem_cons_succ, List.getElem_cons_zero, Act.put, List.setIfInBounds_toArray, List.set_cons_zero, List.set_cons_succ]
    refine wpAnyH_take (i := 6) (v := ?v6) rfl (by kernel_rfl) (by kernel_rfl) (by kernel_rfl) (fun _ _ _ h => h) (Or.inl ⟨rfl, ?y6⟩) (by assumption) ?_
    case y6 => (intro w hSw; (try dsimp only at hSw); go_simp; first | done | with_reducible rfl)
    simp only [List.getElem_toArray, List.getElem_cons_succ, List.getElem_cons_zero, Act.put, List.setIfInBounds_toArray, List.set_cons_zero, List.set_cons_succ]
    refine wpAnyH_ready (rs := [7]) (by kernel_rfl) (by simp) ?_
    refine AllReadyH.cons rfl (fun K hK => ?_) AllReadyH.nil
    go_simp
    refine hK.out _ _ ?_ (fun hHeld => ?_)
    · exact ⟨cell_on hHeld.1 _, cell_on hHeld.2 _⟩
    clear hK K
    try simp only [List.getElem_toArray, List.getElem_cons_succ, List.getElem_cons_zero, Act.put, List.setIfInBounds_toArray, List.set_cons_zero, List.set_cons_succ]
    refine wpAnyH_ready (rs := [8]) (by kernel_rfl) (by simp) ?_
    refine AllReadyH.cons rfl (fun K hK => ?_) AllReadyH.nil
    go_simp
    refine hK.out _ _ ?_ (fun hHeld => ?_)
    · exact ⟨cell_on (cell_on (cell_on d3 _) _) _, cell_on (cell_on (cell_new rfl rfl) _) _⟩
    clear hK K
    try simp only [List.getElem_toArray, List.getElem_cons_succ, List.getElem_cons_zero, Act.put, List.setIfInBounds_toArray, List.set_cons_zero, List.set_cons_succ]
    refine wpAnyH_done (by kernel_rfl) ?_ _
    have hB3 : Below w.heap.size w (((w.alloc (.cells #[.string letter] 108)).alloc (.cells #[Value.int .i64 0, .string ⟨#[]⟩, .bool false, .bool false] 68)).alloc (.cells #[.int .i64 s.at_, .string letter] 66)).drew := (below_a3 _ _ _ _).drew
    have B3 : (((w.alloc (.cells #[.string letter] 108)).alloc (.cells #[Value.int .i64 0, .string ⟨#[]⟩, .bool false, .bool false] 68)).alloc (.cells #[.int .i64 s.at_, .string letter] 66)).drew.heap[w.heap.size + 1]? = some (.cells #[Value.int .i64 0, .string ⟨#[]⟩, .bool false, .bool false] 68) := ((below_a1 ((w.alloc (.cells #[.string letter] 108)).alloc (.cells #[Value.int .i64 0, .string ⟨#[]⟩, .bool false, .bool false] 68)) (.cells #[.int .i64 s.at_, .string letter] 66)).block (w.heap.size + 1) (by simp)).trans (ev_block (Below.refl _ _))
    have p0 : (((w.alloc (.cells #[.string letter] 108)).alloc (.cells #[Value.int .i64 0, .string ⟨#[]⟩, .bool false, .bool false] 68)).alloc (.cells #[.int .i64 s.at_, .string letter] 66)).drew.cell? ⟨w.heap.size + 1 + 1, 0, none⟩ = some (.int .i64 s.at_) := cell_new (by simp) rfl
    have p1 : (((w.alloc (.cells #[.string letter] 108)).alloc (.cells #[Value.int .i64 0, .string ⟨#[]⟩, .bool false, .bool false] 68)).alloc (.cells #[.int .i64 s.at_, .string letter] 66)).drew.cell? ⟨w.heap.size + 1 + 1, 1, none⟩ = some (.string letter) := cell_new (by simp) rfl
    clear hHeld
    generalize (((w.alloc (.cells #[.string letter] 108)).alloc (.cells #[Value.int .i64 0, .string ⟨#[]⟩, .bool false, .bool false] 68)).alloc (.cells #[.int .i64 s.at_, .string letter] 66)).drew = w3 at *
    have hz3 := own_lt B3
    have hM3 := hM.out.below hB3
    go_wp2_with fail
    refine (hcall.out _ hM3).mono ?_
    rintro e w1 ⟨rfl, hgr1, hM1⟩
    have B := Lib.hid ((hgr1.block (w.heap.size + 1) hz3 (by simp; omega)).trans B3)
    have pp := p0
    replace p0 := hgr1.cell p0 (by simp; omega)
    replace p1 := hgr1.cell p1 (by simp; omega)
    generalize hbb : (decide (s.at_ < c.bell) && decide (c.bell ≤ s.at_ + 2)) = bb at *
    replace hbb := Lib.hid hbb
    have hgr : w.grownBy w1 (some R) := grown_trans (grown_below hB3 _) hgr1
    have hz := hgr.size
    have hzp := World.block_lt_of_cell? _ _ p0
    simp only at hzp
    replace hM1 := Lib.hid (hM2.out w1 hM1)
    clear hB3 B3 hM3 hgr1 hM2 pp
    have x0 : w1.cell? ⟨w.heap.size + 1, 0, none⟩ = some (.int .i64 0) := own_cell B.out (o := 0) rfl
    have z0 : w1.frozen? ⟨w.heap.size + 1, 0, none⟩ = false := own_frozen B.out 0
    have x1 : w1.cell? ⟨w.heap.size + 1, 1, none⟩ = some (.string ⟨#[]⟩) := own_cell B.out (o := 1) rfl
    have z1 : w1.frozen? ⟨w.heap.size + 1, 1, none⟩ = false := own_frozen B.out 1
    have x2 : w1.cell? ⟨w.heap.size + 1, 2, none⟩ = some (.bool false) := own_cell B.out (o := 2) rfl
    have z2 : w1.frozen? ⟨w.heap.size + 1, 2, none⟩ = false := own_frozen B.out 2
    have x3 : w1.cell? ⟨w.heap.size + 1, 3, none⟩ = some (.bool false) := own_cell B.out (o := 3) rfl
    have z3 : w1.frozen? ⟨w.heap.size + 1, 3, none⟩ = false := own_frozen B.out 3
    have hl := own_lt B.out
    have P := Lib.hid (put4 (.int .i64 s.at_) (.string letter) (.bool bb) (.bool false) B.out)
    have hfin : Hid (w.grownBy ((((w1.setCell ⟨w.heap.size + 1, 0, none⟩ (.int .i64 s.at_)).setCell ⟨w.heap.size + 1, 1, none⟩ (.string letter)).setCell ⟨w.heap.size + 1, 2, none⟩ (.bool bb)).setCell ⟨w.heap.size + 1, 3, none⟩ (.bool false)) (some R) ∧ IM ((((w1.setCell ⟨w.heap.size + 1, 0, none⟩ (.int .i64 s.at_)).setCell ⟨w.heap.size + 1, 1, none⟩ (.string letter)).setCell ⟨w.heap.size + 1, 2, none⟩ (.bool bb)).setCell ⟨w.heap.size + 1, 3, none⟩ (.bool false)) R c (s'.at_) (s'.free)) := Lib.hid ⟨(by repeat (first | with_reducible refine grown_setR ?_ | refine grown_setNew ?_ (by first | exact Nat.le_refl _ | (simp; omega) | simp | omega) | with_reducible refine grown_drewN ?_ _ | with_reducible refine grown_alloc ?_ _ | exact hgr | with_reducible exact grown_refl _ _)), (by (repeat (with_reducible refine IM.setNew ?_ (by omega))); exact hM1.out)⟩
    clear B hgr hM1
    go_wp2
    replace P := P.out
    generalize ((((w1.setCell ⟨w.heap.size + 1, 0, none⟩ (.int .i64 s.at_)).setCell ⟨w.heap.size + 1, 1, none⟩ (.string letter)).setCell ⟨w.heap.size + 1, 2, none⟩ (.bool bb)).setCell ⟨w.heap.size + 1, 3, none⟩ (.bool false)) = wz at *
    obtain ⟨y0, y1, y2, y3⟩ := P
    have Y := fun o => (⟨cell_on y0 o, cell_on y1 o, cell_on y2 o, cell_on y3 o⟩ : (wz.alloc o).cell? _ = _ ∧ (wz.alloc o).cell? _ = _ ∧ (wz.alloc o).cell? _ = _ ∧ (wz.alloc o).cell? _ = _)
    refine bodyPost_ret (v := .agg #[.int .i64 s.at_, .string letter, .bool bb, .bool false]) (by simp [results, Tryd.results105, go_sem, Y]) rfl ?_
    exact DoOut.yes hact.out rfl hev.out (grown_alloc hfin.out.1 _) (hfin.out.2.below (below_a1 _ _))
end Go.Proofs.YtiopeheockajaaaDoor
