/- Plans that are run: one step. -/
import Derived.Test.YtcmmcgjpaabnoaaDoorRn1
namespace Go.Proofs.YtcmmcgjpaabnoaaDoor
open Go.RowKit Go.ChangeShapes Go.WideShapes Go.Deep
set_option linter.unusedVariables false
set_option linter.unusedSimpArgs false

/-- A step is done, or cannot be. -/
def DoOut (Bb b gL cap : Nat) (M : Value) (ps : List Int) (L : List UInt8) (a : Nat) (x : Stp) (w : World) (e : Ending) (w' : World) : Prop :=
  Below Bb w w' ∧ ((e = .returned (.bool false) ∧ ∀ S, doF ps (x :: S) L a = none) ∨ (e = .returned (.bool true) ∧ ∃ L' a', TRow b gL cap M L' a' w' ∧ (∀ y ∈ L', y ∈ L ∨ y = x.1) ∧ ∀ S, doF ps (x :: S) L a = doF ps S L' a'))
theorem MovsAt.heap {w w' : World} {ps : List Int} {g B : Nat} {A : Option Addr} {n c : Nat} (h : MovsAt w ps g B A n c) (hh : w'.heap = w.heap) (hb : Below w.heap.size w w') : MovsAt w' ps g B A n c := h.below hb
set_option maxHeartbeats 2400000 in
theorem do_letter (Bb b gL cap : Nat) (M : Value) (ps : List Int) (L : List UInt8) (a : Nat) (c : UInt8) (hcap : 30 ≤ cap) (w : World) (h : TRow b gL cap M L a w) (hb : Bb ≤ b) (hg : Bb ≤ gL) :
    Calls Tryd.prog 14 #[.pointer (some ⟨b, 0, none⟩), .agg #[.int .i32 (c.toNat : Int), .bool true]] w (DoOut Bb b gL cap M ps L a (c, true) w) := by
  have hlt := h.lt
  have hw0 := Lib.hid (below_a1 w (.cells #[.int .i32 (c.toNat : Int), .bool true] 41))
  have hc := Lib.hid (tl11 Bb b gL cap M L a c hcap _ (h.below hw0.out) hb hg)
  have hbb : Bb ≤ w.heap.size := by omega
  replace h := Lib.hid h
  go_enter Tryd.func14, Tryd.ntmps14
  go_wp2_with fail
  refine hc.out.mono ?_
  rintro e w1 ⟨hb1, ho⟩
  by_cases hp : a = 30 ∨ ¬ (L.getD a 0).toNat = 32
  · rw [if_pos hp] at ho
    subst ho
    have hf : Hid (∀ S, doF ps ((c, true) :: S) L a = none) := Lib.hid (fun S => by
      rw [doF]
      simp only [if_true]
      rcases hp with h1 | h1
      · rw [if_pos h1]
      · rw [if_neg h1]; split <;> rfl)
    replace hp := Lib.hid hp
    go_wp2
    go_ret
    exact ⟨(hw0.out.mono hbb).trans hb1, .inl ⟨rfl, hf.out⟩⟩
  · rw [if_neg hp] at ho
    obtain ⟨rfl, hT⟩ := ho
    have hf : Hid (∀ S, doF ps ((c, true) :: S) L a = doF ps S (L.set a c) (a + 1)) := Lib.hid (fun S => by
      have h1 : ¬ a = 30 := fun e => hp (.inl e)
      have h2 : (L.getD a 0).toNat = 32 := Classical.byContradiction fun e => hp (.inr e)
      rw [doF]
      simp only [if_true, if_neg h1, if_pos h2])
    replace hp := Lib.hid hp
    replace hT := Lib.hid hT
    go_wp2
    go_ret
    exact ⟨(hw0.out.mono hbb).trans hb1, .inr ⟨rfl, _, _, hT.out, fun y hy => List.mem_or_eq_of_mem_set hy, hf.out⟩⟩
set_option maxRecDepth 100000 in
set_option maxHeartbeats 2400000 in
theorem do_move0 (Bb b gL cap g B : Nat) (A : Option Addr) (n c : Nat) (ps : List Int) (L : List UInt8) (a : Nat) (w : World) (hM : MovsAt w ps g B A n c) (hst : stB ps = true) (h : TRow b gL cap (.slice (some ⟨g, 0, none⟩) 3 3) L a w) (hb : Bb ≤ b) (hg : Bb ≤ gL) (hgb : g ≠ b) :
    Calls Tryd.prog 14 #[.pointer (some ⟨b, 0, none⟩), .agg #[.int .i32 35, .bool false]] w (DoOut Bb b gL cap (.slice (some ⟨g, 0, none⟩) 3 3) ps L a (mvB 0, false) w) := by
  have hlt := h.lt
  have hbb : Bb ≤ w.heap.size := by omega
  have ha := h.col
  obtain ⟨m, q, hm⟩ : ∃ m q, mvR ps a 0 = (m, q) := ⟨_, _, rfl⟩
  have hcl := Lib.hid (fun W (hW : Below w.heap.size w W) => (mv11_0 g B A n c ps a W (hM.below hW) hst ha hm))
  have hw0 := below_a1 w (.cells #[.int .i32 35, .bool false] 41)
  have hfin : Hid (∀ W, Below Bb w W → TRow b gL cap (.slice (some ⟨g, 0, none⟩) 3 3) L a W → DoOut Bb b gL cap (.slice (some ⟨g, 0, none⟩) 3 3) ps L a (mvB 0, false) w (.returned (.bool q)) (W.setCell ⟨b, 1, none⟩ (.int .i64 m))) := Lib.hid (fun W hbW hTW => by
    refine ⟨hbW.setCell (p := ⟨b, 1, none⟩) hb _, ?_⟩
    cases hk : stK ps a 0 with
    | some x =>
      have hs := mvR_some hst ha (by omega) hk
      rw [hm] at hs
      cases hs
      obtain ⟨hx, hx30⟩ := stK_some hk
      refine .inr ⟨rfl, L, x, hTW.move hx30, fun y hy => .inl hy, fun S => ?_⟩
      rw [doF]
      simp only [Bool.false_eq_true, if_false]
      rw [hx, if_neg (by omega), Int.toNat_natCast]
    | none =>
      obtain ⟨m', hs⟩ := mvR_none hst ha (by omega) hk
      rw [hm] at hs
      cases hs
      refine .inl ⟨rfl, fun S => ?_⟩
      rw [doF]
      simp only [Bool.false_eq_true, if_false]
      rw [if_pos]
      unfold stK at hk
      split at hk
      · cases hk
      · omega)
  clear hm
  replace h := Lib.hid h
  replace hM := Lib.hid hM
  go_enter Tryd.func14, Tryd.ntmps14
  have h0 := h.out.below hw0
  have k0 := h0.c0
  replace h0 := Lib.hid h0
  have s0 := cell_new (w := w) (cs := #[.int .i32 35, .bool false]) (t := 41) (o := 0) (u := .int .i32 35) rfl rfl
  have s1 := cell_new (w := w) (cs := #[.int .i32 35, .bool false]) (t := 41) (o := 1) (u := .bool false) rfl rfl
  go_wp2_with fail
  go_loopw [20] (fun i wr => ∃ k : Nat, k ≤ 0 ∧ i = .int .i64 (k : Int) ∧ Below w.heap.size w wr ∧ w.heap.size < wr.heap.size ∧ wr.cell? ⟨w.heap.size, 0, none⟩ = some (.int .i32 35)) (fun i _ => 3 - (intOf i).toNat)
  case atStart => exact ⟨0, by omega, rfl, hw0, by simp, s0⟩
  case round =>
    obtain ⟨k, hk, rfl, hbw, hsz, d0⟩ := hrel
    clear k0 s0 s1
    have hMr := hM.out.below hbw
    have hTr := h.out.below hbw
    have m0 := hMr.c0
    have m1 := hMr.c1
    have m2 := hMr.c2
    have m3 := hMr.c3
    have m4 := hMr.c4
    have m5 := hMr.c5
    have gsz : g < wr.heap.size := World.block_lt_of_cell? _ _ m0
    replace hMr := Lib.hid hMr
    rcases (show k = 0 by omega) with rfl
    · clear m2 m3 m4 m5
      obtain ⟨wm, hwm⟩ : ∃ wm, wr.alloc (.cells #[.int .i32 35, .func (.func 21) #[] #[.pointer (some ⟨B, 0, none⟩)]] 52) = wm := ⟨_, rfl⟩
      have hbm : Below w.heap.size w wm := by rw [← hwm]; exact hbw.alloc (by omega) _
      have hTm := h.out.below hbm
      have t1 := hTm.c1
      have tf := hTm.fz
      have tl := hTm.lt
      have f0 : wm.cell? ⟨wr.heap.size, 0, none⟩ = some (.int .i32 35) := by rw [← hwm]; exact cell_new rfl rfl
      have f1 : wm.cell? ⟨wr.heap.size, 1, none⟩ = some (.func (.func 21) #[] #[.pointer (some ⟨B, 0, none⟩)]) := by rw [← hwm]; exact cell_new rfl rfl
      have d0m : wm.cell? ⟨w.heap.size, 0, none⟩ = some (.int .i32 35) := by rw [← hwm]; exact cell_on d0 _
      have hszm : w.heap.size < wm.heap.size := by have := hbm.size; rw [← hwm]; simp; omega
      replace hTm := Lib.hid hTm
      replace hTr := Lib.hid hTr
      go_wp2_with fail
      go_quiet ((go_at_call 21; refine quiet_l (hcl.out _ (below_drewN hbm _))))
      have hres := Lib.hid (hfin.out (wm.drewN nq) (below_drewN (hbm.mono hbb) _) (hTm.out.drew nq))
      have t1d := (hTm.out.drew nq).c1
      have tfd := (hTm.out.drew nq).fz
      have tld := (hTm.out.drew nq).lt
      obtain ⟨w1, hw1⟩ : ∃ w1, wm.drewN nq = w1 := ⟨_, rfl⟩
      rw [hw1] at hres t1d tfd tld ⊢
      clear hw1
      go_wp2
      go_ret
      exact hres.out
set_option maxRecDepth 100000 in
set_option maxHeartbeats 2400000 in
theorem do_move1 (Bb b gL cap g B : Nat) (A : Option Addr) (n c : Nat) (ps : List Int) (L : List UInt8) (a : Nat) (w : World) (hM : MovsAt w ps g B A n c) (hst : stB ps = true) (h : TRow b gL cap (.slice (some ⟨g, 0, none⟩) 3 3) L a w) (hb : Bb ≤ b) (hg : Bb ≤ gL) (hgb : g ≠ b) :
    Calls Tryd.prog 14 #[.pointer (some ⟨b, 0, none⟩), .agg #[.int .i32 60, .bool false]] w (DoOut Bb b gL cap (.slice (some ⟨g, 0, none⟩) 3 3) ps L a (mvB 1, false) w) := by
  have hlt := h.lt
  have hbb : Bb ≤ w.heap.size := by omega
  have ha := h.col
  obtain ⟨m, q, hm⟩ : ∃ m q, mvR ps a 1 = (m, q) := ⟨_, _, rfl⟩
  have hcl := Lib.hid (fun W (hW : Below w.heap.size w W) => (mv11_1 ps a W ha hm))
  have hw0 := below_a1 w (.cells #[.int .i32 60, .bool false] 41)
  have hfin : Hid (∀ W, Below Bb w W → TRow b gL cap (.slice (some ⟨g, 0, none⟩) 3 3) L a W → DoOut Bb b gL cap (.slice (some ⟨g, 0, none⟩) 3 3) ps L a (mvB 1, false) w (.returned (.bool q)) (W.setCell ⟨b, 1, none⟩ (.int .i64 m))) := Lib.hid (fun W hbW hTW => by
    refine ⟨hbW.setCell (p := ⟨b, 1, none⟩) hb _, ?_⟩
    cases hk : stK ps a 1 with
    | some x =>
      have hs := mvR_some hst ha (by omega) hk
      rw [hm] at hs
      cases hs
      obtain ⟨hx, hx30⟩ := stK_some hk
      refine .inr ⟨rfl, L, x, hTW.move hx30, fun y hy => .inl hy, fun S => ?_⟩
      rw [doF]
      simp only [Bool.false_eq_true, if_false]
      rw [hx, if_neg (by omega), Int.toNat_natCast]
    | none =>
      obtain ⟨m', hs⟩ := mvR_none hst ha (by omega) hk
      rw [hm] at hs
      cases hs
      refine .inl ⟨rfl, fun S => ?_⟩
      rw [doF]
      simp only [Bool.false_eq_true, if_false]
      rw [if_pos]
      unfold stK at hk
      split at hk
      · cases hk
      · omega)
  clear hm
  replace h := Lib.hid h
  replace hM := Lib.hid hM
  go_enter Tryd.func14, Tryd.ntmps14
  have h0 := h.out.below hw0
  have k0 := h0.c0
  replace h0 := Lib.hid h0
  have s0 := cell_new (w := w) (cs := #[.int .i32 60, .bool false]) (t := 41) (o := 0) (u := .int .i32 60) rfl rfl
  have s1 := cell_new (w := w) (cs := #[.int .i32 60, .bool false]) (t := 41) (o := 1) (u := .bool false) rfl rfl
  go_wp2_with fail
  go_loopw [20] (fun i wr => ∃ k : Nat, k ≤ 1 ∧ i = .int .i64 (k : Int) ∧ Below w.heap.size w wr ∧ w.heap.size < wr.heap.size ∧ wr.cell? ⟨w.heap.size, 0, none⟩ = some (.int .i32 60)) (fun i _ => 3 - (intOf i).toNat)
  case atStart => exact ⟨0, by omega, rfl, hw0, by simp, s0⟩
  case round =>
    obtain ⟨k, hk, rfl, hbw, hsz, d0⟩ := hrel
    clear k0 s0 s1
    have hMr := hM.out.below hbw
    have hTr := h.out.below hbw
    have m0 := hMr.c0
    have m1 := hMr.c1
    have m2 := hMr.c2
    have m3 := hMr.c3
    have m4 := hMr.c4
    have m5 := hMr.c5
    have gsz : g < wr.heap.size := World.block_lt_of_cell? _ _ m0
    replace hMr := Lib.hid hMr
    rcases (show k = 0 ∨ k = 1 by omega) with rfl | rfl
    · clear m2 m3 m4 m5
      replace hTr := Lib.hid hTr
      go_wp2
      go_roundw
      case rel => exact ⟨0 + 1, by omega, by go_num, hbw.alloc (by omega) _, by simp; omega, cell_on d0 _⟩
      case measure => simp [intOf]
    · clear m0 m1 m4 m5
      obtain ⟨wm, hwm⟩ : ∃ wm, wr.alloc (.cells #[.int .i32 60, .func (.func 23) #[] #[]] 52) = wm := ⟨_, rfl⟩
      have hbm : Below w.heap.size w wm := by rw [← hwm]; exact hbw.alloc (by omega) _
      have hTm := h.out.below hbm
      have t1 := hTm.c1
      have tf := hTm.fz
      have tl := hTm.lt
      have f0 : wm.cell? ⟨wr.heap.size, 0, none⟩ = some (.int .i32 60) := by rw [← hwm]; exact cell_new rfl rfl
      have f1 : wm.cell? ⟨wr.heap.size, 1, none⟩ = some (.func (.func 23) #[] #[]) := by rw [← hwm]; exact cell_new rfl rfl
      have d0m : wm.cell? ⟨w.heap.size, 0, none⟩ = some (.int .i32 60) := by rw [← hwm]; exact cell_on d0 _
      have hszm : w.heap.size < wm.heap.size := by have := hbm.size; rw [← hwm]; simp; omega
      replace hTm := Lib.hid hTm
      replace hTr := Lib.hid hTr
      go_wp2_with fail
      go_quiet ((go_at_call 23; refine quiet_l (hcl.out _ (below_drewN hbm _))))
      have hres := Lib.hid (hfin.out (wm.drewN nq) (below_drewN (hbm.mono hbb) _) (hTm.out.drew nq))
      have t1d := (hTm.out.drew nq).c1
      have tfd := (hTm.out.drew nq).fz
      have tld := (hTm.out.drew nq).lt
      obtain ⟨w1, hw1⟩ : ∃ w1, wm.drewN nq = w1 := ⟨_, rfl⟩
      rw [hw1] at hres t1d tfd tld ⊢
      clear hw1
      go_wp2
      go_ret
      exact hres.out
set_option maxRecDepth 100000 in
set_option maxHeartbeats 2400000 in
theorem do_move2 (Bb b gL cap g B : Nat) (A : Option Addr) (n c : Nat) (ps : List Int) (L : List UInt8) (a : Nat) (w : World) (hM : MovsAt w ps g B A n c) (hst : stB ps = true) (h : TRow b gL cap (.slice (some ⟨g, 0, none⟩) 3 3) L a w) (hb : Bb ≤ b) (hg : Bb ≤ gL) (hgb : g ≠ b) :
    Calls Tryd.prog 14 #[.pointer (some ⟨b, 0, none⟩), .agg #[.int .i32 62, .bool false]] w (DoOut Bb b gL cap (.slice (some ⟨g, 0, none⟩) 3 3) ps L a (mvB 2, false) w) := by
  have hlt := h.lt
  have hbb : Bb ≤ w.heap.size := by omega
  have ha := h.col
  obtain ⟨m, q, hm⟩ : ∃ m q, mvR ps a 2 = (m, q) := ⟨_, _, rfl⟩
  have hcl := Lib.hid (fun W (hW : Below w.heap.size w W) => (mv11_2 ps a W ha hm))
  have hw0 := below_a1 w (.cells #[.int .i32 62, .bool false] 41)
  have hfin : Hid (∀ W, Below Bb w W → TRow b gL cap (.slice (some ⟨g, 0, none⟩) 3 3) L a W → DoOut Bb b gL cap (.slice (some ⟨g, 0, none⟩) 3 3) ps L a (mvB 2, false) w (.returned (.bool q)) (W.setCell ⟨b, 1, none⟩ (.int .i64 m))) := Lib.hid (fun W hbW hTW => by
    refine ⟨hbW.setCell (p := ⟨b, 1, none⟩) hb _, ?_⟩
    cases hk : stK ps a 2 with
    | some x =>
      have hs := mvR_some hst ha (by omega) hk
      rw [hm] at hs
      cases hs
      obtain ⟨hx, hx30⟩ := stK_some hk
      refine .inr ⟨rfl, L, x, hTW.move hx30, fun y hy => .inl hy, fun S => ?_⟩
      rw [doF]
      simp only [Bool.false_eq_true, if_false]
      rw [hx, if_neg (by omega), Int.toNat_natCast]
    | none =>
      obtain ⟨m', hs⟩ := mvR_none hst ha (by omega) hk
      rw [hm] at hs
      cases hs
      refine .inl ⟨rfl, fun S => ?_⟩
      rw [doF]
      simp only [Bool.false_eq_true, if_false]
      rw [if_pos]
      unfold stK at hk
      split at hk
      · cases hk
      · omega)
  clear hm
  replace h := Lib.hid h
  replace hM := Lib.hid hM
  go_enter Tryd.func14, Tryd.ntmps14
  have h0 := h.out.below hw0
  have k0 := h0.c0
  replace h0 := Lib.hid h0
  have s0 := cell_new (w := w) (cs := #[.int .i32 62, .bool false]) (t := 41) (o := 0) (u := .int .i32 62) rfl rfl
  have s1 := cell_new (w := w) (cs := #[.int .i32 62, .bool false]) (t := 41) (o := 1) (u := .bool false) rfl rfl
  go_wp2_with fail
  go_loopw [20] (fun i wr => ∃ k : Nat, k ≤ 2 ∧ i = .int .i64 (k : Int) ∧ Below w.heap.size w wr ∧ w.heap.size < wr.heap.size ∧ wr.cell? ⟨w.heap.size, 0, none⟩ = some (.int .i32 62)) (fun i _ => 3 - (intOf i).toNat)
  case atStart => exact ⟨0, by omega, rfl, hw0, by simp, s0⟩
  case round =>
    obtain ⟨k, hk, rfl, hbw, hsz, d0⟩ := hrel
    clear k0 s0 s1
    have hMr := hM.out.below hbw
    have hTr := h.out.below hbw
    have m0 := hMr.c0
    have m1 := hMr.c1
    have m2 := hMr.c2
    have m3 := hMr.c3
    have m4 := hMr.c4
    have m5 := hMr.c5
    have gsz : g < wr.heap.size := World.block_lt_of_cell? _ _ m0
    replace hMr := Lib.hid hMr
    rcases (show k = 0 ∨ k = 1 ∨ k = 2 by omega) with rfl | rfl | rfl
    · clear m2 m3 m4 m5
      replace hTr := Lib.hid hTr
      go_wp2
      go_roundw
      case rel => exact ⟨0 + 1, by omega, by go_num, hbw.alloc (by omega) _, by simp; omega, cell_on d0 _⟩
      case measure => simp [intOf]
    · clear m0 m1 m4 m5
      replace hTr := Lib.hid hTr
      go_wp2
      go_roundw
      case rel => exact ⟨1 + 1, by omega, by go_num, hbw.alloc (by omega) _, by simp; omega, cell_on d0 _⟩
      case measure => simp [intOf]
    · clear m0 m1 m2 m3
      obtain ⟨wm, hwm⟩ : ∃ wm, wr.alloc (.cells #[.int .i32 62, .func (.func 24) #[] #[]] 52) = wm := ⟨_, rfl⟩
      have hbm : Below w.heap.size w wm := by rw [← hwm]; exact hbw.alloc (by omega) _
      have hTm := h.out.below hbm
      have t1 := hTm.c1
      have tf := hTm.fz
      have tl := hTm.lt
      have f0 : wm.cell? ⟨wr.heap.size, 0, none⟩ = some (.int .i32 62) := by rw [← hwm]; exact cell_new rfl rfl
      have f1 : wm.cell? ⟨wr.heap.size, 1, none⟩ = some (.func (.func 24) #[] #[]) := by rw [← hwm]; exact cell_new rfl rfl
      have d0m : wm.cell? ⟨w.heap.size, 0, none⟩ = some (.int .i32 62) := by rw [← hwm]; exact cell_on d0 _
      have hszm : w.heap.size < wm.heap.size := by have := hbm.size; rw [← hwm]; simp; omega
      replace hTm := Lib.hid hTm
      replace hTr := Lib.hid hTr
      go_wp2_with fail
      go_quiet ((go_at_call 24; refine quiet_l (hcl.out _ (below_drewN hbm _))))
      have hres := Lib.hid (hfin.out (wm.drewN nq) (below_drewN (hbm.mono hbb) _) (hTm.out.drew nq))
      have t1d := (hTm.out.drew nq).c1
      have tfd := (hTm.out.drew nq).fz
      have tld := (hTm.out.drew nq).lt
      obtain ⟨w1, hw1⟩ : ∃ w1, wm.drewN nq = w1 := ⟨_, rfl⟩
      rw [hw1] at hres t1d tfd tld ⊢
      clear hw1
      go_wp2
      go_ret
      exact hres.out
theorem do_step (Bb b gL cap g B : Nat) (A : Option Addr) (n c : Nat) (ps : List Int) (L : List UInt8) (a : Nat) (x : Stp) (hx : (x.2 = true → letQ x.1 = true) ∧ (x.2 = false → mvQ x.1 = true)) (hcap : 30 ≤ cap) (w : World) (hM : MovsAt w ps g B A n c) (hst : stB ps = true) (h : TRow b gL cap (.slice (some ⟨g, 0, none⟩) 3 3) L a w) (hb : Bb ≤ b) (hg : Bb ≤ gL) (hgb : g ≠ b) :
    Calls Tryd.prog 14 #[.pointer (some ⟨b, 0, none⟩), .agg #[.int .i32 (x.1.toNat : Int), .bool x.2]] w (DoOut Bb b gL cap (.slice (some ⟨g, 0, none⟩) 3 3) ps L a x w) := by
  obtain ⟨ch, t⟩ := x
  cases t with
  | true => exact do_letter Bb b gL cap _ ps L a ch hcap w h hb hg
  | false =>
    have hq := hx.2 rfl
    have hcases : ch.toNat = 35 ∨ ch.toNat = 60 ∨ ch.toNat = 62 := by simpa [mvQ] using hq
    rcases hcases with h1 | h1 | h1
    · obtain rfl : ch = mvB 0 := UInt8.toNat_inj.1 (h1.trans rfl)
      exact do_move0 Bb b gL cap g B A n c ps L a w hM hst h hb hg hgb
    · obtain rfl : ch = mvB 1 := UInt8.toNat_inj.1 (h1.trans rfl)
      exact do_move1 Bb b gL cap g B A n c ps L a w hM hst h hb hg hgb
    · obtain rfl : ch = mvB 2 := UInt8.toNat_inj.1 (h1.trans rfl)
      exact do_move2 Bb b gL cap g B A n c ps L a w hM hst h hb hg hgb
end Go.Proofs.YtcmmcgjpaabnoaaDoor
