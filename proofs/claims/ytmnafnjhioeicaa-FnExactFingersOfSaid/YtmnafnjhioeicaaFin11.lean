/- Boards: the program's functions on boards, layouts and texts. -/
import Derived.Test.YtmnafnjhioeicaaFin10
namespace Go.Proofs.Ytmnafnjhioeicaa
open Go.RowKit Go.ChangeMaps Go.MapKept Go.ChangeShapes Go.WideShapes Go.Deep
set_option linter.unusedVariables false
set_option linter.unusedSimpArgs false

abbrev OKey (ps : List PlaceD) (w : World) (base : Nat) (A : Option Addr) (n : Nat) (ks : List Nat) : Prop := ORow 61 4 (keyC ps) w base A n ks
theorem kept8b {wr wx w1 : World} {p0 p1 p2 p3 p4 p5 p6 p7 : Addr} {v0 v1 v2 v3 v4 v5 v6 v7 : Value} (h : Below wr.heap.size wr wx ∧ wx.cell? p0 = some v0 ∧ wx.cell? p1 = some v1 ∧ wx.cell? p2 = some v2 ∧ wx.cell? p3 = some v3 ∧ wx.cell? p4 = some v4 ∧ wx.cell? p5 = some v5 ∧ wx.cell? p6 = some v6 ∧ wx.cell? p7 = some v7) (hb : Below wx.heap.size wx w1) : Below wr.heap.size wr w1 ∧ w1.cell? p0 = some v0 ∧ w1.cell? p1 = some v1 ∧ w1.cell? p2 = some v2 ∧ w1.cell? p3 = some v3 ∧ w1.cell? p4 = some v4 ∧ w1.cell? p5 = some v5 ∧ w1.cell? p6 = some v6 ∧ w1.cell? p7 = some v7 := kept8 h hb

set_option maxRecDepth 100000 in
set_option maxHeartbeats 3200000 in
theorem sc_impl (A : Option Addr) (n c : Nat) (ps : List PlaceD) (a b : Int) (w : World) (h : Places w A n ps) (hn : n ≤ 1048576) (hg : ∀ x ∈ ps, x.good) (ha : (Lit.int .i64 a).wf = true) (hb : (Lit.int .i64 b).wf = true) :
    Calls Try.prog 17 #[.slice A n c, .int .i64 a, .int .i64 b] w fun e w' => e = .returned (.tuple #[.int .i64 (strokeR ps a b).1, .int .i64 (strokeR ps a b).2]) ∧ Below w.heap.size w w' := by
  generalize hr : strokeR ps a b = r
  replace hr := Lib.hid hr.symm
  have hl := h.1
  clear hg ha hb
  have s1 : IntKind.i64.wrap ((n : Int) - 1) = (n : Int) - 1 := IntWalk.i64_in _ (by omega)
  cases h1 : boardOk ps with
  | false =>
    have hres : Hid (r = (0, 1)) := Lib.hid (by rw [hr.out, strokeR, h1]; rfl)
    have hq := Lib.hid (vb_any A n c ps w h hn h1)
    clear hr h1 hl
    go_enter Try.func17, Try.ntmps17
    go_wp2_with fail
    refine hq.out.mono ?_
    rintro e w1 ⟨rfl, hb1⟩
    go_wp2
    go_ret2
    exact ⟨ret_2 hres.out, hb1⟩
  | true =>
    have hq := Lib.hid (vb_any A n c ps w h hn h1)
    cases h2 : isIn a 0 ((n : Int) - 1) with
    | false =>
      have hres : Hid (r = (0, 2)) := Lib.hid (by rw [hr.out, strokeR, if_pos h1, hl, h2]; rfl)
      have hc2 := Lib.hid (fun W => in_impl h2 W)
      clear hr h1 hl h2
      go_enter Try.func17, Try.ntmps17
      go_wp2_with fail
      refine hq.out.mono ?_
      rintro e w1 ⟨rfl, hb1⟩
      go_wp2_with fail
      refine (hc2.out _).mono ?_
      rintro e w2 ⟨rfl, rfl⟩
      go_wp2
      go_ret2
      exact ⟨ret_2 hres.out, hb1⟩
    | true =>
      have hc2 := Lib.hid (fun W => in_impl h2 W)
      cases h3 : isIn b 0 ((n : Int) - 1) with
      | false =>
        have hres : Hid (r = (0, 2)) := Lib.hid (by rw [hr.out, strokeR, if_pos h1, hl, h2, h3]; rfl)
        have hc3 := Lib.hid (fun W => in_impl h3 W)
        clear hr h1 hl h2 h3
        go_enter Try.func17, Try.ntmps17
        go_wp2_with fail
        refine hq.out.mono ?_
        rintro e w1 ⟨rfl, hb1⟩
        go_wp2_with fail
        refine (hc2.out _).mono ?_
        rintro e w2 ⟨rfl, rfl⟩
        go_wp2_with fail
        refine (hc3.out _).mono ?_
        rintro e w2 ⟨rfl, rfl⟩
        go_wp2
        go_ret2
        exact ⟨ret_2 hres.out, hb1⟩
      | true =>
        have hres : Hid (r = (costI ps a.toNat b.toNat, 0)) := Lib.hid (by rw [hr.out, strokeR, if_pos h1, hl, h2, h3]; rfl)
        have hc3 := Lib.hid (fun W => in_impl h3 W)
        have ia := isIn_iff.1 h2
        have ib := isIn_iff.1 h3
        obtain ⟨x, rfl⟩ : ∃ x : Nat, a = (x : Int) := ⟨a.toNat, by omega⟩
        obtain ⟨y, rfl⟩ : ∃ y : Nat, b = (y : Int) := ⟨b.toNat, by omega⟩
        rw [Int.toNat_natCast, Int.toNat_natCast] at hres
        have hn6 : n ≤ 6 := by have := (boardOk_iff.1 h1).2.2; rw [hl] at this; exact this
        have hkeys := Lib.hid (fun W (hW : Places W A n ps) => keys_impl A n c ps W hW hn6)
        have hc4 := Lib.hid (fun W => behind_impl ps h1 x y W rfl)
        have hxn : x < n := by omega
        have hyn : y < n := by omega
        have x0 : (0 : Int) ≤ (x : Int) := Int.natCast_nonneg _
        have x1 : (x : Int) < (n : Int) := by omega
        have y0 : (0 : Int) ≤ (y : Int) := Int.natCast_nonneg _
        have y1 : (y : Int) < (n : Int) := by omega
        clear hr h1 hl h2 h3 ia ib
        go_enter Try.func17, Try.ntmps17
        go_wp2_with fail
        refine hq.out.mono ?_
        rintro e w1 ⟨rfl, hb1⟩
        go_wp2_with fail
        refine (hc2.out _).mono ?_
        rintro e w2 ⟨rfl, rfl⟩
        go_wp2_with fail
        refine (hc3.out _).mono ?_
        rintro e w2 ⟨rfl, rfl⟩
        rename World => w1
        go_wp2_with fail
        refine (hkeys.out _ (h.below hb1)).mono ?_
        rintro e w3 ⟨A', c', rfl, hO, hb3⟩
        have hbw := Lib.hid (hb1.step hb3)
        obtain ⟨B, off, x', rfl, hB, hx, c0, c1, c2, c3⟩ := bkey_at hO.srow hxn
        obtain ⟨B', off', y', hBe, hB', hy, d0, d1, d2, d3⟩ := bkey_at hO.srow hyn
        cases hBe
        obtain rfl : x = x' := by have := hx.out; rw [List.getElem?_range hxn] at this; exact Option.some.inj this
        obtain rfl : y = y' := by have := hy.out; rw [List.getElem?_range hyn] at this; exact Option.some.inj this
        unfold keyV at hc4
        clear hO hx hy hkeys hb1 hb3 hc2 hc3 hq h
        generalize costI ps x y = v at *
        generalize (plc ps y).finger = f at *
        generalize (plc ps y).row = r at *
        generalize (plc ps y).effort = e at *
        generalize (plc ps x).finger = f' at *
        generalize (plc ps x).row = r' at *
        generalize (plc ps x).effort = e' at *
        go_wp2_with fail
        refine wp_region_held_drew (S := fun w' => Below w3.heap.size w3 w' ∧ w'.cell? ⟨B, off + y * 4, none⟩ = some (.int .i64 f) ∧ w'.cell? ⟨B, off + y * 4 + 1, none⟩ = some (.int .i64 r) ∧ w'.cell? ⟨B, off + y * 4 + 2, none⟩ = some (.int .i64 e) ∧ w'.cell? ⟨B, off + y * 4 + 3, none⟩ = some (.int .i64 (y : Int)) ∧ w'.cell? ⟨B, off + x * 4, none⟩ = some (.int .i64 f') ∧ w'.cell? ⟨B, off + x * 4 + 1, none⟩ = some (.int .i64 r') ∧ w'.cell? ⟨B, off + x * 4 + 2, none⟩ = some (.int .i64 e') ∧ w'.cell? ⟨B, off + x * 4 + 3, none⟩ = some (.int .i64 (x : Int))) (by kernel_rfl) ?_ (fun hHeld => ?_)
        · exact ⟨(Below.refl _ _).drew, d0, d1, d2, d3, c0, c1, c2, c3⟩
        refine wpAnyH_take (i := 0) (v := ?vsc0) rfl (by kernel_rfl) (by kernel_rfl) (by kernel_rfl) (fun _ _ _ h => h) (Or.inl ⟨rfl, ?ysc0⟩) (by assumption) ?_
        case ysc0 => (intro w hSw; (try dsimp only at hSw); go_simp; first | done | with_reducible rfl)
        simp only [List.getElem_toArray, List.getElem_cons_succ, List.getElem_cons_zero, Act.put, List.setIfInBounds_toArray, List.set_cons_zero, List.set_cons_succ]
        refine wpAnyH_take (i := 1) (v := ?vsc1) rfl (by kernel_rfl) (by kernel_rfl) (by kernel_rfl) (fun _ _ _ h => h) (Or.inl ⟨rfl, ?ysc1⟩) (by assumption) ?_
        case ysc1 => (intro w hSw; (try dsimp only at hSw); go_simp; first | done | with_reducible rfl)
        simp only [List.getElem_toArray, List.getElem_cons_succ, List.getElem_cons_zero, Act.put, List.setIfInBounds_toArray, List.set_cons_zero, List.set_cons_succ]
        refine wpAnyH_take (i := 2) (v := ?vsc2) rfl (by kernel_rfl) (by kernel_rfl) (by kernel_rfl) (fun _ _ _ h => h) (Or.inl ⟨rfl, ?ysc2⟩) (by assumption) ?_
        case ysc2 => (intro w hSw; (try dsimp only at hSw); go_simp; first | done | with_reducible rfl)
        simp only [List.getElem_toArray, List.getElem_cons_succ, List.getElem_cons_zero, Act.put, List.setIfInBounds_toArray, List.set_cons_zero, List.set_cons_succ]
        refine wpAnyH_take (i := 3) (v := ?vsc3) rfl (by kernel_rfl) (by kernel_rfl) (by kernel_rfl) (fun _ _ _ h => h) (Or.inl ⟨rfl, ?ysc3⟩) (by assumption) ?_
        case ysc3 => (intro w hSw; (try dsimp only at hSw); go_simp; first | done | with_reducible rfl)
        simp only [List.getElem_toArray, List.getElem_cons_succ, List.getElem_cons_zero, Act.put, List.setIfInBounds_toArray, List.set_cons_zero, List.set_cons_succ]
        refine wpAnyH_take (i := 4) (v := ?vsc4) rfl (by kernel_rfl) (by kernel_rfl) (by kernel_rfl) (fun _ _ _ h => h) (Or.inl ⟨rfl, ?ysc4⟩) (by assumption) ?_
        case ysc4 => (intro w hSw; (try dsimp only at hSw); go_simp; first | done | with_reducible rfl)
        simp only [List.getElem_toArray, List.getElem_cons_succ, List.getElem_cons_zero, Act.put, List.setIfInBounds_toArray, List.set_cons_zero, List.set_cons_succ]
        refine wpAnyH_take (i := 5) (v := ?vsc5) rfl (by kernel_rfl) (by kernel_rfl) (by kernel_rfl) (fun _ _ _ h => h) (Or.inl ⟨rfl, ?ysc5⟩) (by assumption) ?_
        case ysc5 => (intro w hSw; (try dsimp only at hSw); go_simp; first | done | with_reducible rfl)
        simp only [List.getElem_toArray, List.getElem_cons_succ, List.getElem_cons_zero, Act.put, List.setIfInBounds_toArray, List.set_cons_zero, List.set_cons_succ]
        refine wpAnyH_take (i := 6) (v := ?vsc6) rfl (by kernel_rfl) (by kernel_rfl) (by kernel_rfl) (fun _ _ _ h => h) (Or.inl ⟨rfl, ?ysc6⟩) (by assumption) ?_
        case ysc6 => (intro w hSw; (try dsimp only at hSw); go_simp; first | done | with_reducible rfl)
        simp only [List.getElem_toArray, List.getElem_cons_succ, List.getElem_cons_zero, Act.put, List.setIfInBounds_toArray, List.set_cons_zero, List.set_cons_succ]
        refine wpAnyH_take (i := 7) (v := ?vsc7) rfl (by kernel_rfl) (by kernel_rfl) (by kernel_rfl) (fun _ _ _ h => h) (Or.inl ⟨rfl, ?ysc7⟩) (by assumption) ?_
        case ysc7 => (intro w hSw; (try dsimp only at hSw); go_simp; first | done | with_reducible rfl)
        simp only [List.getElem_toArray, List.getElem_cons_succ, List.getElem_cons_zero, Act.put, List.setIfInBounds_toArray, List.set_cons_zero, List.set_cons_succ]
        refine wpAnyH_ready (rs := [8]) (by kernel_rfl) (by simp) ?_
        refine AllReadyH.cons rfl (fun K hK => ?_) AllReadyH.nil
        go_simp
        refine (hc4.out _).mono ?_
        rintro e w1 ⟨rfl, hb1⟩
        go_wp2_with fail
        refine hK.out _ _ ?_ (fun hHeld => ?_)
        · exact kept8 (by assumption) hb1
        clear hK K hb1
        try simp only [List.getElem_toArray, List.getElem_cons_succ, List.getElem_cons_zero, Act.put, List.setIfInBounds_toArray, List.set_cons_zero, List.set_cons_succ]
        refine wpAnyH_take (i := 9) (v := ?vsc9) rfl (by kernel_rfl) (by kernel_rfl) (by kernel_rfl) (fun _ _ _ h => h) (Or.inl ⟨rfl, ?ysc9⟩) (by assumption) ?_
        case ysc9 => (intro w hSw; (try dsimp only at hSw); go_simp; first | done | with_reducible rfl)
        simp only [List.getElem_toArray, List.getElem_cons_succ, List.getElem_cons_zero, Act.put, List.setIfInBounds_toArray, List.set_cons_zero, List.set_cons_succ]
        refine wpAnyH_take (i := 10) (v := ?vsc10) rfl (by kernel_rfl) (by kernel_rfl) (by kernel_rfl) (fun _ _ _ h => h) (Or.inl ⟨rfl, ?ysc10⟩) (by assumption) ?_
        case ysc10 => (intro w hSw; (try dsimp only at hSw); go_simp; first | done | with_reducible rfl)
        simp only [List.getElem_toArray, List.getElem_cons_succ, List.getElem_cons_zero, Act.put, List.setIfInBounds_toArray, List.set_cons_zero, List.set_cons_succ]
        refine wpAnyH_done (by kernel_rfl) ?_ _
        go_wp2
        go_ret2
        exact ⟨ret_2 hres.out, hbw.out.step hHeld.1⟩
set_option maxRecDepth 100000 in
set_option maxHeartbeats 3200000 in
theorem tc_impl (A : Option Addr) (n c : Nat) (ps : List PlaceD) (s t : ByteArray) (w : World) (h : Places w A n ps) (hn : n ≤ 1048576) (hg : ∀ x ∈ ps, x.good) (hs : s.size ≤ 1048576) (ht : t.size ≤ 1048576) :
    Calls Try.prog 19 #[.slice A n c, .string s, .string t] w fun e w' => e = .returned (.tuple #[.int .i64 (costR ps s t).1, .int .i64 (costR ps s t).2]) ∧ Below w.heap.size w w' := by
  generalize hr : costR ps s t = r
  replace hr := Lib.hid hr.symm
  have hq := Lib.hid (st_impl A n c ps s t w h hn hs ht)
  clear hg
  by_cases h0 : finCode ps s t = 0
  rotate_left
  · have hres : Hid (r = (0, finCode ps s t)) := Lib.hid (by rw [hr.out, costR, if_neg h0])
    go_enter Try.func19, Try.ntmps19
    go_wp2_with fail
    refine hq.out.mono ?_
    rintro e w1 ⟨A', n', c', rfl, -, hb1⟩
    generalize finCode ps s t = code at *
    have g0 : (code == 0) = false := beq_eq_false_iff_ne.2 h0
    have g1 : (code != 0) = true := by simp [h0]
    clear h0 hr
    go_wp2
    go_ret2
    exact ⟨ret_2 hres.out, hb1⟩
  obtain ⟨k1, -, -, k4⟩ := finCode_ok h0
  replace k1 := Lib.hid k1
  have hres : Hid (r = (sumTo (costN ps s t) t.size, 0)) := Lib.hid (by rw [hr.out]; rw [costR, if_pos h0])
  clear hr
  go_enter Try.func19, Try.ntmps19
  go_wp2_with fail
  refine hq.out.mono ?_
  rintro e w1 ⟨A', n', c', rfl, hOO, hbw⟩
  rw [h0]
  obtain ⟨rfl, hO⟩ := hOO h0
  have hK := hO.srow
  replace hbw := Lib.hid hbw
  clear hO hOO h0 hq h
  have hsr := Lib.hid (sumTo_range (costN_range k1.out s t))
  go_wp2
  go_loopw [10, 25] (fun v i wr => ∃ k : Nat, k ≤ t.size ∧ i = .int .i64 k ∧ Below w1.heap.size w1 wr ∧ v = .int .i64 (sumTo (costN ps s t) k)) (fun _ i _ => t.size - (intOf i).toNat)
  case atStart => exact ⟨0, by omega, rfl, Below.refl _ _, rfl⟩
  case round =>
    obtain ⟨k, hk, rfl, hbr, rfl⟩ := hrel
    by_cases hlt : k < t.size
    · obtain ⟨B, off, x, rfl, hB, hx, c0, c1, c2, c3⟩ := bkey_at (hK.below hbr) hlt
      obtain rfl : stk s t k = x := by have := hx.out; rw [stkL_at s t hlt] at this; exact Option.some.inj this
      have hsk := hsr.out k
      have hpx := placeOk_iff.1 (plc_ok k1.out (stk s t k))
      have hnx : sumTo (costN ps s t) (k + 1) = sumTo (costN ps s t) k + costN ps s t k := rfl
      by_cases hz : k = 0
      · have g0 : decide ((0 : Int) < (k : Int)) = false := decide_eq_false (by omega)
        have g0' : decide (0 < k) = false := decide_eq_false (by omega)
        have hcn : Hid (sumTo (costN ps s t) (k + 1) = sumTo (costN ps s t) k + (plc ps (stk s t k)).effort) := Lib.hid (by rw [hnx]; subst hz; rfl)
        generalize sumTo (costN ps s t) k = a at *
        generalize (plc ps (stk s t k)).finger = f at *
        generalize (plc ps (stk s t k)).row = r at *
        generalize (plc ps (stk s t k)).effort = e at *
        have s1 : IntKind.i64.wrap (a + e) = a + e := IntWalk.i64_in _ (by omega)
        clear hz hnx hx
        go_wp2
        go_roundw
        case rel => exact ⟨k + 1, by omega, by go_num, hbr.step (below_a1 _ _), by rw [hcn.out]⟩
        case measure => simp [intOf]; omega
      · have g0 : decide ((0 : Int) < (k : Int)) = true := decide_eq_true (by omega)
        have g0' : decide (0 < k) = true := decide_eq_true (by omega)
        have hcn : Hid (sumTo (costN ps s t) (k + 1) = sumTo (costN ps s t) k + (plc ps (stk s t k)).effort + reachI ps (stk s t (k - 1)) (stk s t k)) := Lib.hid (by rw [hnx, costN, if_neg hz, costI]; omega)
        have hrr := reachI_range k1.out (stk s t (k - 1)) (stk s t k)
        have hcall := Lib.hid (fun W => reach_impl ps k1.out (stk s t (k - 1)) (stk s t k) W rfl)
        obtain ⟨B', off', y, hBe, hB', hy, d0, d1, d2, d3⟩ := bkey_at (hK.below hbr) (show k - 1 < t.size by omega)
        cases hBe
        obtain rfl : stk s t (k - 1) = y := by have := hy.out; rw [stkL_at s t (show k - 1 < t.size by omega)] at this; exact Option.some.inj this
        have r0 : (0 : Int) ≤ (k : Int) := by omega
        have r1 : (k : Int) < (t.size : Int) := by omega
        have r2 : (0 : Int) ≤ (k : Int) - 1 := by omega
        have r3 : (k : Int) - 1 < (t.size : Int) := by omega
        have r4 : ((k : Int) - 1).toNat = k - 1 := by omega
        have r5 : (1 : Int) ≤ (k : Int) := by omega
        have s9 : IntKind.i64.wrap ((k : Int) - 1) = (k : Int) - 1 := IntWalk.i64_in _ (by omega)
        unfold keyV at hcall
        have hbx := Lib.hid (hbr.step (below_a1 wr (.cells #[.int .i64 (plc ps (stk s t k)).finger, .int .i64 (plc ps (stk s t k)).row, .int .i64 (plc ps (stk s t k)).effort, .int .i64 (stk s t k : Int)] 61)))
        generalize sumTo (costN ps s t) k = a at *
        generalize reachI ps (stk s t (k - 1)) (stk s t k) = v at *
        generalize (plc ps (stk s t k)).finger = f at *
        generalize (plc ps (stk s t k)).row = r at *
        generalize (plc ps (stk s t k)).effort = e at *
        generalize (plc ps (stk s t (k - 1))).finger = f' at *
        generalize (plc ps (stk s t (k - 1))).row = r' at *
        generalize (plc ps (stk s t (k - 1))).effort = e' at *
        generalize stk s t k = q at *
        generalize stk s t (k - 1) = p at *
        have s1 : IntKind.i64.wrap (a + e) = a + e := IntWalk.i64_in _ (by omega)
        have s2 : IntKind.i64.wrap (a + e + v) = a + e + v := IntWalk.i64_in _ (by omega)
        clear hz hnx hx hy
        go_wp2_with fail
        have k0' : (wr.alloc (.cells #[.int .i64 f, .int .i64 r, .int .i64 e, .int .i64 (q : Int)] 61)).cell? ⟨wr.heap.size, 0, none⟩ = some (.int .i64 f) := cell_new rfl rfl
        have k1' : (wr.alloc (.cells #[.int .i64 f, .int .i64 r, .int .i64 e, .int .i64 (q : Int)] 61)).cell? ⟨wr.heap.size, 1, none⟩ = some (.int .i64 r) := cell_new rfl rfl
        have k2' : (wr.alloc (.cells #[.int .i64 f, .int .i64 r, .int .i64 e, .int .i64 (q : Int)] 61)).cell? ⟨wr.heap.size, 2, none⟩ = some (.int .i64 e) := cell_new rfl rfl
        have k3' : (wr.alloc (.cells #[.int .i64 f, .int .i64 r, .int .i64 e, .int .i64 (q : Int)] 61)).cell? ⟨wr.heap.size, 3, none⟩ = some (.int .i64 (q : Int)) := cell_new rfl rfl
        replace d0 := cell_on d0 (.cells #[.int .i64 f, .int .i64 r, .int .i64 e, .int .i64 (q : Int)] 61)
        replace d1 := cell_on d1 (.cells #[.int .i64 f, .int .i64 r, .int .i64 e, .int .i64 (q : Int)] 61)
        replace d2 := cell_on d2 (.cells #[.int .i64 f, .int .i64 r, .int .i64 e, .int .i64 (q : Int)] 61)
        replace d3 := cell_on d3 (.cells #[.int .i64 f, .int .i64 r, .int .i64 e, .int .i64 (q : Int)] 61)
        generalize wr.alloc (.cells #[.int .i64 f, .int .i64 r, .int .i64 e, .int .i64 (q : Int)] 61) = wn at *
        refine wp_region_held_drew (S := fun w' => Below wn.heap.size wn w' ∧ w'.cell? ⟨wr.heap.size, 0, none⟩ = some (.int .i64 f) ∧ w'.cell? ⟨wr.heap.size, 1, none⟩ = some (.int .i64 r) ∧ w'.cell? ⟨wr.heap.size, 2, none⟩ = some (.int .i64 e) ∧ w'.cell? ⟨wr.heap.size, 3, none⟩ = some (.int .i64 (q : Int)) ∧ w'.cell? ⟨B, off + (k - 1) * 4, none⟩ = some (.int .i64 f') ∧ w'.cell? ⟨B, off + (k - 1) * 4 + 1, none⟩ = some (.int .i64 r') ∧ w'.cell? ⟨B, off + (k - 1) * 4 + 2, none⟩ = some (.int .i64 e') ∧ w'.cell? ⟨B, off + (k - 1) * 4 + 3, none⟩ = some (.int .i64 (p : Int))) (by kernel_rfl) ?_ (fun hHeld => ?_)
        · exact ⟨(Below.refl _ _).drew, k0', k1', k2', k3', d0, d1, d2, d3⟩
        refine wpAnyH_take (i := 0) (v := ?vtc0) rfl (by kernel_rfl) (by kernel_rfl) (by kernel_rfl) (fun _ _ _ h => h) (Or.inl ⟨rfl, ?ytc0⟩) (by assumption) ?_
        case ytc0 => (intro w hSw; (try dsimp only at hSw); go_simp; first | done | with_reducible rfl)
        simp only [List.getElem_toArray, List.getElem_cons_succ, List.getElem_cons_zero, Act.put, List.setIfInBounds_toArray, List.set_cons_zero, List.set_cons_succ]
        refine wpAnyH_take (i := 1) (v := ?vtc1) rfl (by kernel_rfl) (by kernel_rfl) (by kernel_rfl) (fun _ _ _ h => h) (Or.inl ⟨rfl, ?ytc1⟩) (by assumption) ?_
        case ytc1 => (intro w hSw; (try dsimp only at hSw); go_simp; first | done | with_reducible rfl)
        simp only [List.getElem_toArray, List.getElem_cons_succ, List.getElem_cons_zero, Act.put, List.setIfInBounds_toArray, List.set_cons_zero, List.set_cons_succ]
        refine wpAnyH_take (i := 2) (v := ?vtc2) rfl (by kernel_rfl) (by kernel_rfl) (by kernel_rfl) (fun _ _ _ h => h) (Or.inl ⟨rfl, ?ytc2⟩) (by assumption) ?_
        case ytc2 => (intro w hSw; (try dsimp only at hSw); go_simp; first | done | with_reducible rfl)
        simp only [List.getElem_toArray, List.getElem_cons_succ, List.getElem_cons_zero, Act.put, List.setIfInBounds_toArray, List.set_cons_zero, List.set_cons_succ]
        refine wpAnyH_take (i := 3) (v := ?vtc3) rfl (by kernel_rfl) (by kernel_rfl) (by kernel_rfl) (fun _ _ _ h => h) (Or.inl ⟨rfl, ?ytc3⟩) (by assumption) ?_
        case ytc3 => (intro w hSw; (try dsimp only at hSw); go_simp; first | done | with_reducible rfl)
        simp only [List.getElem_toArray, List.getElem_cons_succ, List.getElem_cons_zero, Act.put, List.setIfInBounds_toArray, List.set_cons_zero, List.set_cons_succ]
        refine wpAnyH_take (i := 4) (v := ?vtc4) rfl (by kernel_rfl) (by kernel_rfl) (by kernel_rfl) (fun _ _ _ h => h) (Or.inl ⟨rfl, ?ytc4⟩) (by assumption) ?_
        case ytc4 => (intro w hSw; (try dsimp only at hSw); go_simp; first | done | with_reducible rfl)
        simp only [List.getElem_toArray, List.getElem_cons_succ, List.getElem_cons_zero, Act.put, List.setIfInBounds_toArray, List.set_cons_zero, List.set_cons_succ]
        refine wpAnyH_take (i := 5) (v := ?vtc5) rfl (by kernel_rfl) (by kernel_rfl) (by kernel_rfl) (fun _ _ _ h => h) (Or.inl ⟨rfl, ?ytc5⟩) (by assumption) ?_
        case ytc5 => (intro w hSw; (try dsimp only at hSw); go_simp; first | done | with_reducible rfl)
        simp only [List.getElem_toArray, List.getElem_cons_succ, List.getElem_cons_zero, Act.put, List.setIfInBounds_toArray, List.set_cons_zero, List.set_cons_succ]
        refine wpAnyH_take (i := 6) (v := ?vtc6) rfl (by kernel_rfl) (by kernel_rfl) (by kernel_rfl) (fun _ _ _ h => h) (Or.inl ⟨rfl, ?ytc6⟩) (by assumption) ?_
        case ytc6 => (intro w hSw; (try dsimp only at hSw); go_simp; first | done | with_reducible rfl)
        simp only [List.getElem_toArray, List.getElem_cons_succ, List.getElem_cons_zero, Act.put, List.setIfInBounds_toArray, List.set_cons_zero, List.set_cons_succ]
        refine wpAnyH_ready (rs := [7]) (by kernel_rfl) (by simp) ?_
        refine AllReadyH.cons rfl (fun K hK => ?_) AllReadyH.nil
        go_simp
        refine (hcall.out _).mono ?_
        rintro e w1 ⟨rfl, hb1⟩
        go_wp2_with fail
        refine hK.out _ _ ?_ (fun hHeld => ?_)
        · exact kept8 (by assumption) hb1
        clear hK K hb1
        try simp only [List.getElem_toArray, List.getElem_cons_succ, List.getElem_cons_zero, Act.put, List.setIfInBounds_toArray, List.set_cons_zero, List.set_cons_succ]
        refine wpAnyH_take (i := 8) (v := ?vtc8) rfl (by kernel_rfl) (by kernel_rfl) (by kernel_rfl) (fun _ _ _ h => h) (Or.inl ⟨rfl, ?ytc8⟩) (by assumption) ?_
        case ytc8 => (intro w hSw; (try dsimp only at hSw); go_simp; first | done | with_reducible rfl)
        simp only [List.getElem_toArray, List.getElem_cons_succ, List.getElem_cons_zero, Act.put, List.setIfInBounds_toArray, List.set_cons_zero, List.set_cons_succ]
        refine wpAnyH_take (i := 9) (v := ?vtc9) rfl (by kernel_rfl) (by kernel_rfl) (by kernel_rfl) (fun _ _ _ h => h) (Or.inl ⟨rfl, ?ytc9⟩) (by assumption) ?_
        case ytc9 => (intro w hSw; (try dsimp only at hSw); go_simp; first | done | with_reducible rfl)
        simp only [List.getElem_toArray, List.getElem_cons_succ, List.getElem_cons_zero, Act.put, List.setIfInBounds_toArray, List.set_cons_zero, List.set_cons_succ]
        refine wpAnyH_done (by kernel_rfl) ?_ _
        go_wp2
        go_roundw
        case rel => exact ⟨k + 1, by omega, by go_num, hbx.out.step hHeld.1, by rw [hcn.out]⟩
        case measure => simp [intOf]; omega
    · obtain rfl : k = t.size := by omega
      go_wp2
      go_ret2
      exact ⟨ret_2 hres.out, hbw.out.step hbr⟩

set_option maxRecDepth 100000 in
set_option maxHeartbeats 3200000 in
theorem ho_impl (A : Option Addr) (n c : Nat) (ps : List PlaceD) (s t : ByteArray) (w : World) (h : Places w A n ps) (hn : n ≤ 1048576) (hg : ∀ x ∈ ps, x.good) (hs : s.size ≤ 1048576) (ht : t.size ≤ 1048576) :
    Calls Try.prog 21 #[.slice A n c, .string s, .string t] w fun e w' => e = .returned (.tuple #[.int .i64 (handsR ps s t).1, .int .i64 (handsR ps s t).2.1, .int .i64 (handsR ps s t).2.2]) ∧ Below w.heap.size w w' := by
  generalize hr : handsR ps s t = r
  replace hr := Lib.hid hr.symm
  have hq := Lib.hid (st_impl A n c ps s t w h hn hs ht)
  clear hg
  by_cases h0 : finCode ps s t = 0
  rotate_left
  · have hres : Hid (r = (0, 0, finCode ps s t)) := Lib.hid (by rw [hr.out, handsR, if_neg h0])
    go_enter Try.func21, Try.ntmps21
    go_wp2_with fail
    refine hq.out.mono ?_
    rintro e w1 ⟨A', n', c', rfl, -, hb1⟩
    generalize finCode ps s t = code at *
    have g0 : (code == 0) = false := beq_eq_false_iff_ne.2 h0
    have g1 : (code != 0) = true := by simp [h0]
    clear h0 hr
    go_wp2
    go_ret3
    exact ⟨ret_3 hres.out, hb1⟩
  obtain ⟨k1, -, -, k4⟩ := finCode_ok h0
  replace k1 := Lib.hid k1
  have hres : Hid (r = ((t.size : Int) - (cntTo (rightN ps s t) t.size : Int), (cntTo (rightN ps s t) t.size : Int), 0)) := Lib.hid (by
    rw [hr.out, handsR, if_pos h0]
    have h1 := cntTo_not (rightN ps s t) t.size
    have h2 : (fun i => !rightN ps s t i) = leftN ps s t := by funext i; rw [leftN_is]
    rw [h2] at h1
    have : (cntTo (leftN ps s t) t.size : Int) = (t.size : Int) - (cntTo (rightN ps s t) t.size : Int) := by omega
    rw [this])
  clear hr
  go_enter Try.func21, Try.ntmps21
  go_wp2_with fail
  refine hq.out.mono ?_
  rintro e w1 ⟨A', n', c', rfl, hOO, hbw⟩
  rw [h0]
  obtain ⟨rfl, hO⟩ := hOO h0
  have hK := hO.srow
  replace hbw := Lib.hid hbw
  clear hO hOO h0 hq h
  have hcl := Lib.hid (cntTo_le (rightN ps s t))
  go_wp2
  go_loopw [11, 26] (fun v i wr => ∃ k : Nat, k ≤ t.size ∧ i = .int .i64 k ∧ Below w1.heap.size w1 wr ∧ v = .int .i64 (cntTo (rightN ps s t) k)) (fun _ i _ => t.size - (intOf i).toNat)
  case atStart => exact ⟨0, by omega, rfl, Below.refl _ _, rfl⟩
  case round =>
    obtain ⟨k, hk, rfl, hbr, rfl⟩ := hrel
    have hle := hcl.out k
    by_cases hlt : k < t.size
    · obtain ⟨B, off, x, rfl, hB, hx, c0, c1, c2, c3⟩ := bkey_at (hK.below hbr) hlt
      obtain rfl : stk s t k = x := by have := hx.out; rw [stkL_at s t hlt] at this; exact Option.some.inj this
      have hrt := Lib.hid (fun W => right_impl (plc ps (stk s t k)) (v := rightN ps s t k) rfl W)
      cases hf : rightN ps s t k with
      | true =>
        have hnx : Hid (cntTo (rightN ps s t) (k + 1) = cntTo (rightN ps s t) k + 1) := Lib.hid (cntTo_yes hf)
        rw [hf] at hrt
        generalize cntTo (rightN ps s t) k = cc at *
        clear hf hx
        generalize (plc ps (stk s t k)).finger = f at *
        generalize (plc ps (stk s t k)).row = r at *
        generalize (plc ps (stk s t k)).effort = e at *
        go_wp2_with fail
        refine (hrt.out _).mono ?_
        rintro e w2 ⟨rfl, hb2⟩
        go_wp2
        go_roundw
        case rel => exact ⟨k + 1, by omega, by go_num, hbr.step ((below_a1 _ _).step hb2), by rw [hnx.out]; go_num⟩
        case measure => simp [intOf]; omega
      | false =>
        have hnx : Hid (cntTo (rightN ps s t) (k + 1) = cntTo (rightN ps s t) k) := Lib.hid (cntTo_no hf)
        rw [hf] at hrt
        generalize cntTo (rightN ps s t) k = cc at *
        clear hf hx
        generalize (plc ps (stk s t k)).finger = f at *
        generalize (plc ps (stk s t k)).row = r at *
        generalize (plc ps (stk s t k)).effort = e at *
        go_wp2_with fail
        refine (hrt.out _).mono ?_
        rintro e w2 ⟨rfl, hb2⟩
        go_wp2
        go_roundw
        case rel => exact ⟨k + 1, by omega, by go_num, hbr.step ((below_a1 _ _).step hb2), by rw [hnx.out]⟩
        case measure => simp [intOf]; omega
    · obtain rfl : k = t.size := by omega
      generalize cntTo (rightN ps s t) t.size = cc at *
      have s1 : IntKind.i64.wrap ((t.size : Int) - (cc : Int)) = (t.size : Int) - (cc : Int) := IntWalk.i64_in _ (by omega)
      go_wp2
      go_ret3
      exact ⟨ret_3 hres.out, hbw.out.step hbr⟩

set_option maxRecDepth 100000 in
set_option maxHeartbeats 3200000 in
theorem fo_impl (A : Option Addr) (n c : Nat) (ps : List PlaceD) (s t : ByteArray) (w : World) (h : Places w A n ps) (hn : n ≤ 1048576) (hg : ∀ x ∈ ps, x.good) (hs : s.size ≤ 1048576) (ht : t.size ≤ 1048576) :
    Calls Try.prog 23 #[.slice A n c, .string s, .string t] w (InOut (fingR ps s t) w) := by
  generalize hr : fingR ps s t = r
  replace hr := Lib.hid hr.symm
  have hq := Lib.hid (st_impl A n c ps s t w h hn hs ht)
  clear hg
  by_cases h0 : finCode ps s t = 0
  rotate_left
  · have hres : Hid (r = ([], finCode ps s t)) := Lib.hid (by rw [hr.out, fingR, if_neg h0])
    go_enter Try.func23, Try.ntmps23
    go_wp2_with fail
    refine hq.out.mono ?_
    rintro e w1 ⟨A', n', c', rfl, -, hb1⟩
    generalize finCode ps s t = code at *
    have g0 : (code == 0) = false := beq_eq_false_iff_ne.2 h0
    have g1 : (code != 0) = true := by simp [h0]
    clear h0 hr
    go_wp2
    go_ret2
    exact InOut.bad hres.out hb1
  obtain ⟨k1, -, -, k4⟩ := finCode_ok h0
  replace k1 := Lib.hid k1
  have hres : Hid (r = (fingTo ps s t t.size, 0)) := Lib.hid (by rw [hr.out]; rw [fingR, if_pos h0])
  clear hr
  go_enter Try.func23, Try.ntmps23
  go_wp2_with fail
  refine hq.out.mono ?_
  rintro e w1 ⟨A', n', c', rfl, hOO, hbw⟩
  rw [h0]
  obtain ⟨rfl, hO⟩ := hOO h0
  have hK := hO.srow
  replace hbw := Lib.hid hbw
  clear hO hOO h0 hq h
  have hrg := Lib.hid (fingTo_range ps s t)
  have kk1 := Lib.hid (fun i => placeOk_iff.1 (plc_ok k1.out i))
  obtain ⟨i0, hi, hz0, hz1, hz2⟩ := info_parts Try.infoI64
  have hmk := fun W => run_make_many (P := Try.prog) 36 2 i0 _ Try.underlying36 hi hz0 .i64 .i64 8 (by rw [hz2]; omega) (by omega) W
  rw [hz1] at hmk
  simp only [show ((8 : Nat) : Int) = 8 from rfl] at hmk
  go_wp2
  have hO0 := OInts.zeros w1 8
  have hmb := Lib.hid (below_a1 w1 (.cells (madeCells #[.int .i64 0] 8) 2))
  go_loopw [26] (fun i wr => ∃ k : Nat, k ≤ t.size ∧ i = .int .i64 k ∧ Below w1.heap.size w1 wr ∧ OInts wr w1.heap.size (some ⟨w1.heap.size, 0, none⟩) 8 (fingTo ps s t k)) (fun i _ => t.size - (intOf i).toNat)
  case atStart => exact ⟨0, by omega, rfl, hmb.out, hO0⟩
  case round =>
    obtain ⟨k, hk, rfl, hbr, hO⟩ := hrel
    by_cases hlt : k < t.size
    · obtain ⟨B, off, x, rfl, hB, hx, c0, c1, c2, c3⟩ := bkey_at (hK.below hbr) hlt
      obtain rfl : stk s t k = x := by have := hx.out; rw [stkL_at s t hlt] at this; exact Option.some.inj this
      have hfr := (kk1.out (stk s t k)).1
      obtain ⟨g, hf⟩ : ∃ g : Nat, (plc ps (stk s t k)).finger = (g : Int) := ⟨(plc ps (stk s t k)).finger.toNat, by omega⟩
      have hf8 : g < 8 := by omega
      have hnx : Hid (fingTo ps s t (k + 1) = (fingTo ps s t k).set g ((fingTo ps s t k).getD g 0 + 1)) := Lib.hid (by
        show (fingTo ps s t k).set _ _ = _
        rw [hf, Int.toNat_natCast])
      have hOa := ORow.below hO (below_a1 wr (.cells #[.int .i64 (g : Int), .int .i64 (plc ps (stk s t k)).row, .int .i64 (plc ps (stk s t k)).effort, .int .i64 (stk s t k : Int)] 61))
      obtain ⟨p0, p1, p2, p3⟩ := OInts.parts hOa hf8
      obtain ⟨o0, o1, o2, o3⟩ := hO.parts hf8
      have hgr := hrg.out k g
      have hO' := Lib.hid (OInts.put ((fingTo ps s t k).getD g 0 + 1) hOa hf8)
      have hO2' := Lib.hid (ORow.below (OInts.put ((fingTo ps s t k).getD g 0 + 1) hO hf8) (below_a1 _ (.cells #[.int .i64 (g : Int), .int .i64 (plc ps (stk s t k)).row, .int .i64 (plc ps (stk s t k)).effort, .int .i64 (stk s t k : Int)] 61)))
      have hb' := Lib.hid ((hbr.step (below_a1 wr (.cells #[.int .i64 (g : Int), .int .i64 (plc ps (stk s t k)).row, .int .i64 (plc ps (stk s t k)).effort, .int .i64 (stk s t k : Int)] 61))).setCell (p := ⟨w1.heap.size, g, none⟩) (Nat.le_refl _) (.int .i64 ((fingTo ps s t k).getD g 0 + 1)))
      have hb2' := Lib.hid ((hbr.setCell (p := ⟨w1.heap.size, g, none⟩) (Nat.le_refl _) (.int .i64 ((fingTo ps s t k).getD g 0 + 1))).alloc (by rw [World.size_setCell]; exact hbr.size) (.cells #[.int .i64 (g : Int), .int .i64 (plc ps (stk s t k)).row, .int .i64 (plc ps (stk s t k)).effort, .int .i64 (stk s t k : Int)] 61))
      rw [hf] at c0
      have e2 : (0 : Int) ≤ (g : Int) := Int.natCast_nonneg _
      have e3 : (g : Int) < 8 := by omega
      have s1 : IntKind.i64.wrap ((fingTo ps s t k).getD g 0 + 1) = (fingTo ps s t k).getD g 0 + 1 := IntWalk.i64_in _ (by omega)
      generalize (fingTo ps s t k).getD g 0 = v at *
      clear hf hfr hO hOa hx
      generalize (plc ps (stk s t k)).row = r at *
      generalize (plc ps (stk s t k)).effort = e at *
      go_wp2
      go_roundw
      case rel => exact ⟨k + 1, by omega, by go_num, by first | exact hb'.out | exact hb2'.out, by rw [hnx.out]; first | exact hO'.out | exact hO2'.out⟩
      case measure => simp [intOf]; omega
    · obtain rfl : k = t.size := by omega
      replace hO := Lib.hid hO
      go_wp2
      go_ret2
      exact InOut.good hres.out (by omega) hO.out hbw.out.size (hbw.out.step hbr)

set_option maxRecDepth 100000 in
set_option maxHeartbeats 3200000 in
theorem ao_impl (A : Option Addr) (n c : Nat) (ps : List PlaceD) (s t : ByteArray) (w : World) (h : Places w A n ps) (hn : n ≤ 1048576) (hg : ∀ x ∈ ps, x.good) (hs : s.size ≤ 1048576) (ht : t.size ≤ 1048576) :
    Calls Try.prog 29 #[.slice A n c, .string s, .string t] w fun e w' => e = .returned (.tuple #[.int .i64 (altR ps s t).1, .int .i64 (altR ps s t).2]) ∧ Below w.heap.size w w' := by
  generalize hr : altR ps s t = r
  replace hr := Lib.hid hr.symm
  have hq := Lib.hid (st_impl A n c ps s t w h hn hs ht)
  clear hg
  by_cases h0 : finCode ps s t = 0
  rotate_left
  · have hres : Hid (r = (0, finCode ps s t)) := Lib.hid (by rw [hr.out, altR, if_neg h0])
    go_enter Try.func29, Try.ntmps29
    go_wp2_with fail
    refine hq.out.mono ?_
    rintro e w1 ⟨A', n', c', rfl, -, hb1⟩
    generalize finCode ps s t = code at *
    have g0 : (code == 0) = false := beq_eq_false_iff_ne.2 h0
    have g1 : (code != 0) = true := by simp [h0]
    clear h0 hr
    go_wp2
    go_ret2
    exact ⟨ret_2 hres.out, hb1⟩
  obtain ⟨k1, -, -, k4⟩ := finCode_ok h0
  replace k1 := Lib.hid k1
  have hres : Hid (r = ((cntTo (altN ps s t) (t.size - 1) : Int), 0)) := Lib.hid (by rw [hr.out]; rw [altR, if_pos h0])
  clear hr
  go_enter Try.func29, Try.ntmps29
  go_wp2_with fail
  refine hq.out.mono ?_
  rintro e w1 ⟨A', n', c', rfl, hOO, hbw⟩
  rw [h0]
  obtain ⟨rfl, hO⟩ := hOO h0
  have hK := hO.srow
  replace hbw := Lib.hid hbw
  clear hO hOO h0 hq h
  have hcl := Lib.hid (cntTo_le (altN ps s t))
  go_wp2
  go_loopw [10, 11] (fun v i wr => ∃ k : Nat, 1 ≤ k ∧ (k ≤ t.size ∨ k = 1) ∧ i = .int .i64 k ∧ Below w1.heap.size w1 wr ∧ v = .int .i64 (cntTo (altN ps s t) (k - 1))) (fun _ i _ => t.size + 1 - (intOf i).toNat)
  case atStart => exact ⟨1, by omega, by omega, rfl, Below.refl _ _, rfl⟩
  case round =>
    obtain ⟨k, hk1, hk, rfl, hbr, rfl⟩ := hrel
    have hle := hcl.out (k - 1)
    by_cases hlt : k < t.size
    · obtain ⟨B, off, x, rfl, hB, hx, c0, c1, c2, c3⟩ := bkey_at (hK.below hbr) hlt
      obtain rfl : stk s t k = x := by have := hx.out; rw [stkL_at s t hlt] at this; exact Option.some.inj this
      obtain ⟨B', off', y, hBe, hB', hy, d0, d1, d2, d3⟩ := bkey_at (hK.below hbr) (show k - 1 < t.size by omega)
      cases hBe
      obtain rfl : stk s t (k - 1) = y := by have := hy.out; rw [stkL_at s t (show k - 1 < t.size by omega)] at this; exact Option.some.inj this
      have r0 : (0 : Int) ≤ (k : Int) := by omega
      have r1 : (k : Int) < (t.size : Int) := by omega
      have r2 : (0 : Int) ≤ (k : Int) - 1 := by omega
      have r3 : (k : Int) - 1 < (t.size : Int) := by omega
      have r4 : ((k : Int) - 1).toNat = k - 1 := by omega
      have r5 : (1 : Int) ≤ (k : Int) := by omega
      have s9 : IntKind.i64.wrap ((k : Int) - 1) = (k : Int) - 1 := IntWalk.i64_in _ (by omega)
      have hrx := Lib.hid (fun W => right_impl (plc ps (stk s t k)) (v := rightN ps s t k) rfl W)
      have hry := Lib.hid (fun W => right_impl (plc ps (stk s t (k - 1))) (v := rightN ps s t (k - 1)) rfl W)
      have halt : Hid (altN ps s t (k - 1) = (rightN ps s t k != rightN ps s t (k - 1))) := Lib.hid (by
        have hkk : k - 1 + 1 = k := by omega
        rw [altN, hkk])
      have hkk : Hid (k + 1 - 1 = k - 1 + 1) := Lib.hid (by omega)
      have hcn := Lib.hid (fun h => cntTo_yes (f := altN ps s t) (k := k - 1) h)
      have hcn' := Lib.hid (fun h => cntTo_no (f := altN ps s t) (k := k - 1) h)
      generalize rightN ps s t k = u at *
      generalize rightN ps s t (k - 1) = z at *
      clear hx hy
      generalize (plc ps (stk s t k)).finger = f at *
      generalize (plc ps (stk s t k)).row = r at *
      generalize (plc ps (stk s t k)).effort = e at *
      generalize (plc ps (stk s t (k - 1))).finger = f' at *
      generalize (plc ps (stk s t (k - 1))).row = r' at *
      generalize (plc ps (stk s t (k - 1))).effort = e' at *
      cases hzu : (u == z) with
      | true =>
        have hzu' : (u != z) = false := by simp only [bne, hzu]; rfl
        have hnx : Hid (cntTo (altN ps s t) (k + 1 - 1) = cntTo (altN ps s t) (k - 1)) := Lib.hid (by rw [hkk.out, hcn'.out (by rw [halt.out, hzu'])])
        clear halt hcn hcn'
        generalize cntTo (altN ps s t) (k - 1) = cc at *
        go_wp2_with fail
        refine wp_region_held_drew (S := fun w' => Below wr.heap.size wr w' ∧ w'.cell? ⟨B, off + k * 4, none⟩ = some (.int .i64 f) ∧ w'.cell? ⟨B, off + k * 4 + 1, none⟩ = some (.int .i64 r) ∧ w'.cell? ⟨B, off + k * 4 + 2, none⟩ = some (.int .i64 e) ∧ w'.cell? ⟨B, off + (k - 1) * 4, none⟩ = some (.int .i64 f') ∧ w'.cell? ⟨B, off + (k - 1) * 4 + 1, none⟩ = some (.int .i64 r') ∧ w'.cell? ⟨B, off + (k - 1) * 4 + 2, none⟩ = some (.int .i64 e')) (by kernel_rfl) ?_ (fun hHeld => ?_)
        · exact ⟨(Below.refl _ _).drew, c0, c1, c2, d0, d1, d2⟩
        refine wpAnyH_take (i := 0) (v := ?vaa0) rfl (by kernel_rfl) (by kernel_rfl) (by kernel_rfl) (fun _ _ _ h => h) (Or.inl ⟨rfl, ?yaa0⟩) (by assumption) ?_
        case yaa0 => (intro w hSw; (try dsimp only at hSw); go_simp; first | done | with_reducible rfl)
        simp only [List.getElem_toArray, List.getElem_cons_succ, List.getElem_cons_zero, Act.put, List.setIfInBounds_toArray, List.set_cons_zero, List.set_cons_succ]
        refine wpAnyH_take (i := 1) (v := ?vaa1) rfl (by kernel_rfl) (by kernel_rfl) (by kernel_rfl) (fun _ _ _ h => h) (Or.inl ⟨rfl, ?yaa1⟩) (by assumption) ?_
        case yaa1 => (intro w hSw; (try dsimp only at hSw); go_simp; first | done | with_reducible rfl)
        simp only [List.getElem_toArray, List.getElem_cons_succ, List.getElem_cons_zero, Act.put, List.setIfInBounds_toArray, List.set_cons_zero, List.set_cons_succ]
        refine wpAnyH_take (i := 2) (v := ?vaa2) rfl (by kernel_rfl) (by kernel_rfl) (by kernel_rfl) (fun _ _ _ h => h) (Or.inl ⟨rfl, ?yaa2⟩) (by assumption) ?_
        case yaa2 => (intro w hSw; (try dsimp only at hSw); go_simp; first | done | with_reducible rfl)
        simp only [List.getElem_toArray, List.getElem_cons_succ, List.getElem_cons_zero, Act.put, List.setIfInBounds_toArray, List.set_cons_zero, List.set_cons_succ]
        refine wpAnyH_take (i := 3) (v := ?vaa3) rfl (by kernel_rfl) (by kernel_rfl) (by kernel_rfl) (fun _ _ _ h => h) (Or.inl ⟨rfl, ?yaa3⟩) (by assumption) ?_
        case yaa3 => (intro w hSw; (try dsimp only at hSw); go_simp; first | done | with_reducible rfl)
        simp only [List.getElem_toArray, List.getElem_cons_succ, List.getElem_cons_zero, Act.put, List.setIfInBounds_toArray, List.set_cons_zero, List.set_cons_succ]
        refine wpAnyH_take (i := 4) (v := ?vaa4) rfl (by kernel_rfl) (by kernel_rfl) (by kernel_rfl) (fun _ _ _ h => h) (Or.inl ⟨rfl, ?yaa4⟩) (by assumption) ?_
        case yaa4 => (intro w hSw; (try dsimp only at hSw); go_simp; first | done | with_reducible rfl)
        simp only [List.getElem_toArray, List.getElem_cons_succ, List.getElem_cons_zero, Act.put, List.setIfInBounds_toArray, List.set_cons_zero, List.set_cons_succ]
        refine wpAnyH_take (i := 6) (v := ?vaa6) rfl (by kernel_rfl) (by kernel_rfl) (by kernel_rfl) (fun _ _ _ h => h) (Or.inl ⟨rfl, ?yaa6⟩) (by assumption) ?_
        case yaa6 => (intro w hSw; (try dsimp only at hSw); go_simp; first | done | with_reducible rfl)
        simp only [List.getElem_toArray, List.getElem_cons_succ, List.getElem_cons_zero, Act.put, List.setIfInBounds_toArray, List.set_cons_zero, List.set_cons_succ]
        refine wpAnyH_take (i := 7) (v := ?vaa7) rfl (by kernel_rfl) (by kernel_rfl) (by kernel_rfl) (fun _ _ _ h => h) (Or.inl ⟨rfl, ?yaa7⟩) (by assumption) ?_
        case yaa7 => (intro w hSw; (try dsimp only at hSw); go_simp; first | done | with_reducible rfl)
        simp only [List.getElem_toArray, List.getElem_cons_succ, List.getElem_cons_zero, Act.put, List.setIfInBounds_toArray, List.set_cons_zero, List.set_cons_succ]
        refine wpAnyH_take (i := 8) (v := ?vaa8) rfl (by kernel_rfl) (by kernel_rfl) (by kernel_rfl) (fun _ _ _ h => h) (Or.inl ⟨rfl, ?yaa8⟩) (by assumption) ?_
        case yaa8 => (intro w hSw; (try dsimp only at hSw); go_simp; first | done | with_reducible rfl)
        simp only [List.getElem_toArray, List.getElem_cons_succ, List.getElem_cons_zero, Act.put, List.setIfInBounds_toArray, List.set_cons_zero, List.set_cons_succ]
        refine wpAnyH_take (i := 9) (v := ?vaa9) rfl (by kernel_rfl) (by kernel_rfl) (by kernel_rfl) (fun _ _ _ h => h) (Or.inl ⟨rfl, ?yaa9⟩) (by assumption) ?_
        case yaa9 => (intro w hSw; (try dsimp only at hSw); go_simp; first | done | with_reducible rfl)
        simp only [List.getElem_toArray, List.getElem_cons_succ, List.getElem_cons_zero, Act.put, List.setIfInBounds_toArray, List.set_cons_zero, List.set_cons_succ]
        refine wpAnyH_take (i := 10) (v := ?vaa10) rfl (by kernel_rfl) (by kernel_rfl) (by kernel_rfl) (fun _ _ _ h => h) (Or.inl ⟨rfl, ?yaa10⟩) (by assumption) ?_
        case yaa10 => (intro w hSw; (try dsimp only at hSw); go_simp; first | done | with_reducible rfl)
        simp only [List.getElem_toArray, List.getElem_cons_succ, List.getElem_cons_zero, Act.put, List.setIfInBounds_toArray, List.set_cons_zero, List.set_cons_succ]
        refine wpAnyH_take (i := 11) (v := ?vaa11) rfl (by kernel_rfl) (by kernel_rfl) (by kernel_rfl) (fun _ _ _ h => h) (Or.inl ⟨rfl, ?yaa11⟩) (by assumption) ?_
        case yaa11 => (intro w hSw; (try dsimp only at hSw); go_simp; first | done | with_reducible rfl)
        simp only [List.getElem_toArray, List.getElem_cons_succ, List.getElem_cons_zero, Act.put, List.setIfInBounds_toArray, List.set_cons_zero, List.set_cons_succ]
        refine wpAnyH_ready (rs := [5]) (by kernel_rfl) (by simp) ?_
        refine AllReadyH.cons rfl (fun K hK => ?_) AllReadyH.nil
        go_simp
        refine (hrx.out _).mono ?_
        rintro e w1 ⟨rfl, hb1⟩
        go_wp2_with fail
        refine hK.out _ _ ?_ (fun hHeld => ?_)
        · exact kept6 (by assumption) hb1
        clear hK K hb1
        try simp only [List.getElem_toArray, List.getElem_cons_succ, List.getElem_cons_zero, Act.put, List.setIfInBounds_toArray, List.set_cons_zero, List.set_cons_succ]
        refine wpAnyH_ready (rs := [12]) (by kernel_rfl) (by simp) ?_
        refine AllReadyH.cons rfl (fun K hK => ?_) AllReadyH.nil
        go_simp
        refine (hry.out _).mono ?_
        rintro e w1 ⟨rfl, hb1⟩
        go_wp2_with fail
        refine hK.out _ _ ?_ (fun hHeld => ?_)
        · exact kept6 (by assumption) hb1
        clear hK K hb1
        try simp only [List.getElem_toArray, List.getElem_cons_succ, List.getElem_cons_zero, Act.put, List.setIfInBounds_toArray, List.set_cons_zero, List.set_cons_succ]
        refine wpAnyH_take (i := 13) (v := ?vaa13) rfl (by kernel_rfl) (by kernel_rfl) (by kernel_rfl) (fun _ _ _ h => h) (Or.inl ⟨rfl, ?yaa13⟩) (by assumption) ?_
        case yaa13 => (intro w hSw; (try dsimp only at hSw); go_simp; first | done | with_reducible rfl)
        simp only [List.getElem_toArray, List.getElem_cons_succ, List.getElem_cons_zero, Act.put, List.setIfInBounds_toArray, List.set_cons_zero, List.set_cons_succ]
        refine wpAnyH_done (by kernel_rfl) ?_ _
        go_wp2
        go_roundw
        case rel => exact ⟨k + 1, by omega, by omega, by go_num, hbr.step hHeld.1, by rw [hnx.out]⟩
        case measure => simp [intOf]; omega
      | false =>
        have hzu' : (u != z) = true := by simp only [bne, hzu]; rfl
        have hnx : Hid (cntTo (altN ps s t) (k + 1 - 1) = cntTo (altN ps s t) (k - 1) + 1) := Lib.hid (by rw [hkk.out, hcn.out (by rw [halt.out, hzu'])])
        clear halt hcn hcn'
        generalize cntTo (altN ps s t) (k - 1) = cc at *
        go_wp2_with fail
        refine wp_region_held_drew (S := fun w' => Below wr.heap.size wr w' ∧ w'.cell? ⟨B, off + k * 4, none⟩ = some (.int .i64 f) ∧ w'.cell? ⟨B, off + k * 4 + 1, none⟩ = some (.int .i64 r) ∧ w'.cell? ⟨B, off + k * 4 + 2, none⟩ = some (.int .i64 e) ∧ w'.cell? ⟨B, off + (k - 1) * 4, none⟩ = some (.int .i64 f') ∧ w'.cell? ⟨B, off + (k - 1) * 4 + 1, none⟩ = some (.int .i64 r') ∧ w'.cell? ⟨B, off + (k - 1) * 4 + 2, none⟩ = some (.int .i64 e')) (by kernel_rfl) ?_ (fun hHeld => ?_)
        · exact ⟨(Below.refl _ _).drew, c0, c1, c2, d0, d1, d2⟩
        refine wpAnyH_take (i := 0) (v := ?vab0) rfl (by kernel_rfl) (by kernel_rfl) (by kernel_rfl) (fun _ _ _ h => h) (Or.inl ⟨rfl, ?yab0⟩) (by assumption) ?_
        case yab0 => (intro w hSw; (try dsimp only at hSw); go_simp; first | done | with_reducible rfl)
        simp only [List.getElem_toArray, List.getElem_cons_succ, List.getElem_cons_zero, Act.put, List.setIfInBounds_toArray, List.set_cons_zero, List.set_cons_succ]
        refine wpAnyH_take (i := 1) (v := ?vab1) rfl (by kernel_rfl) (by kernel_rfl) (by kernel_rfl) (fun _ _ _ h => h) (Or.inl ⟨rfl, ?yab1⟩) (by assumption) ?_
        case yab1 => (intro w hSw; (try dsimp only at hSw); go_simp; first | done | with_reducible rfl)
        simp only [List.getElem_toArray, List.getElem_cons_succ, List.getElem_cons_zero, Act.put, List.setIfInBounds_toArray, List.set_cons_zero, List.set_cons_succ]
        refine wpAnyH_take (i := 2) (v := ?vab2) rfl (by kernel_rfl) (by kernel_rfl) (by kernel_rfl) (fun _ _ _ h => h) (Or.inl ⟨rfl, ?yab2⟩) (by assumption) ?_
        case yab2 => (intro w hSw; (try dsimp only at hSw); go_simp; first | done | with_reducible rfl)
        simp only [List.getElem_toArray, List.getElem_cons_succ, List.getElem_cons_zero, Act.put, List.setIfInBounds_toArray, List.set_cons_zero, List.set_cons_succ]
        refine wpAnyH_take (i := 3) (v := ?vab3) rfl (by kernel_rfl) (by kernel_rfl) (by kernel_rfl) (fun _ _ _ h => h) (Or.inl ⟨rfl, ?yab3⟩) (by assumption) ?_
        case yab3 => (intro w hSw; (try dsimp only at hSw); go_simp; first | done | with_reducible rfl)
        simp only [List.getElem_toArray, List.getElem_cons_succ, List.getElem_cons_zero, Act.put, List.setIfInBounds_toArray, List.set_cons_zero, List.set_cons_succ]
        refine wpAnyH_take (i := 4) (v := ?vab4) rfl (by kernel_rfl) (by kernel_rfl) (by kernel_rfl) (fun _ _ _ h => h) (Or.inl ⟨rfl, ?yab4⟩) (by assumption) ?_
        case yab4 => (intro w hSw; (try dsimp only at hSw); go_simp; first | done | with_reducible rfl)
        simp only [List.getElem_toArray, List.getElem_cons_succ, List.getElem_cons_zero, Act.put, List.setIfInBounds_toArray, List.set_cons_zero, List.set_cons_succ]
        refine wpAnyH_take (i := 6) (v := ?vab6) rfl (by kernel_rfl) (by kernel_rfl) (by kernel_rfl) (fun _ _ _ h => h) (Or.inl ⟨rfl, ?yab6⟩) (by assumption) ?_
        case yab6 => (intro w hSw; (try dsimp only at hSw); go_simp; first | done | with_reducible rfl)
        simp only [List.getElem_toArray, List.getElem_cons_succ, List.getElem_cons_zero, Act.put, List.setIfInBounds_toArray, List.set_cons_zero, List.set_cons_succ]
        refine wpAnyH_take (i := 7) (v := ?vab7) rfl (by kernel_rfl) (by kernel_rfl) (by kernel_rfl) (fun _ _ _ h => h) (Or.inl ⟨rfl, ?yab7⟩) (by assumption) ?_
        case yab7 => (intro w hSw; (try dsimp only at hSw); go_simp; first | done | with_reducible rfl)
        simp only [List.getElem_toArray, List.getElem_cons_succ, List.getElem_cons_zero, Act.put, List.setIfInBounds_toArray, List.set_cons_zero, List.set_cons_succ]
        refine wpAnyH_take (i := 8) (v := ?vab8) rfl (by kernel_rfl) (by kernel_rfl) (by kernel_rfl) (fun _ _ _ h => h) (Or.inl ⟨rfl, ?yab8⟩) (by assumption) ?_
        case yab8 => (intro w hSw; (try dsimp only at hSw); go_simp; first | done | with_reducible rfl)
        simp only [List.getElem_toArray, List.getElem_cons_succ, List.getElem_cons_zero, Act.put, List.setIfInBounds_toArray, List.set_cons_zero, List.set_cons_succ]
        refine wpAnyH_take (i := 9) (v := ?vab9) rfl (by kernel_rfl) (by kernel_rfl) (by kernel_rfl) (fun _ _ _ h => h) (Or.inl ⟨rfl, ?yab9⟩) (by assumption) ?_
        case yab9 => (intro w hSw; (try dsimp only at hSw); go_simp; first | done | with_reducible rfl)
        simp only [List.getElem_toArray, List.getElem_cons_succ, List.getElem_cons_zero, Act.put, List.setIfInBounds_toArray, List.set_cons_zero, List.set_cons_succ]
        refine wpAnyH_take (i := 10) (v := ?vab10) rfl (by kernel_rfl) (by kernel_rfl) (by kernel_rfl) (fun _ _ _ h => h) (Or.inl ⟨rfl, ?yab10⟩) (by assumption) ?_
        case yab10 => (intro w hSw; (try dsimp only at hSw); go_simp; first | done | with_reducible rfl)
        simp only [List.getElem_toArray, List.getElem_cons_succ, List.getElem_cons_zero, Act.put, List.setIfInBounds_toArray, List.set_cons_zero, List.set_cons_succ]
        refine wpAnyH_take (i := 11) (v := ?vab11) rfl (by kernel_rfl) (by kernel_rfl) (by kernel_rfl) (fun _ _ _ h => h) (Or.inl ⟨rfl, ?yab11⟩) (by assumption) ?_
        case yab11 => (intro w hSw; (try dsimp only at hSw); go_simp; first | done | with_reducible rfl)
        simp only [List.getElem_toArray, List.getElem_cons_succ, List.getElem_cons_zero, Act.put, List.setIfInBounds_toArray, List.set_cons_zero, List.set_cons_succ]
        refine wpAnyH_ready (rs := [5]) (by kernel_rfl) (by simp) ?_
        refine AllReadyH.cons rfl (fun K hK => ?_) AllReadyH.nil
        go_simp
        refine (hrx.out _).mono ?_
        rintro e w1 ⟨rfl, hb1⟩
        go_wp2_with fail
        refine hK.out _ _ ?_ (fun hHeld => ?_)
        · exact kept6 (by assumption) hb1
        clear hK K hb1
        try simp only [List.getElem_toArray, List.getElem_cons_succ, List.getElem_cons_zero, Act.put, List.setIfInBounds_toArray, List.set_cons_zero, List.set_cons_succ]
        refine wpAnyH_ready (rs := [12]) (by kernel_rfl) (by simp) ?_
        refine AllReadyH.cons rfl (fun K hK => ?_) AllReadyH.nil
        go_simp
        refine (hry.out _).mono ?_
        rintro e w1 ⟨rfl, hb1⟩
        go_wp2_with fail
        refine hK.out _ _ ?_ (fun hHeld => ?_)
        · exact kept6 (by assumption) hb1
        clear hK K hb1
        try simp only [List.getElem_toArray, List.getElem_cons_succ, List.getElem_cons_zero, Act.put, List.setIfInBounds_toArray, List.set_cons_zero, List.set_cons_succ]
        refine wpAnyH_take (i := 13) (v := ?vab13) rfl (by kernel_rfl) (by kernel_rfl) (by kernel_rfl) (fun _ _ _ h => h) (Or.inl ⟨rfl, ?yab13⟩) (by assumption) ?_
        case yab13 => (intro w hSw; (try dsimp only at hSw); go_simp; first | done | with_reducible rfl)
        simp only [List.getElem_toArray, List.getElem_cons_succ, List.getElem_cons_zero, Act.put, List.setIfInBounds_toArray, List.set_cons_zero, List.set_cons_succ]
        refine wpAnyH_done (by kernel_rfl) ?_ _
        go_wp2
        go_roundw
        case rel => exact ⟨k + 1, by omega, by omega, by go_num, hbr.step hHeld.1, by rw [hnx.out]; go_num⟩
        case measure => simp [intOf]; omega
    · have hkt : Hid (cntTo (altN ps s t) (k - 1) = cntTo (altN ps s t) (t.size - 1)) := Lib.hid (by congr 1; omega)
      go_wp2
      go_ret2
      exact ⟨ret_2 (by rw [hres.out, hkt.out]), hbw.out.step hbr⟩

set_option maxRecDepth 100000 in
set_option maxHeartbeats 3200000 in
theorem dp_impl (A : Option Addr) (n c : Nat) (ps : List PlaceD) (s t : ByteArray) (w : World) (h : Places w A n ps) (hn : n ≤ 1048576) (hg : ∀ x ∈ ps, x.good) (hs : s.size ≤ 1048576) (ht : t.size ≤ 1048576) :
    Calls Try.prog 31 #[.slice A n c, .string s, .string t] w fun e w' => e = .returned (.tuple #[.int .i64 (dearR ps s t).1, .int .i64 (dearR ps s t).2]) ∧ Below w.heap.size w w' := by
  generalize hr : dearR ps s t = r
  replace hr := Lib.hid hr.symm
  have hq := Lib.hid (st_impl A n c ps s t w h hn hs ht)
  clear hg
  by_cases h0 : finCode ps s t = 0
  rotate_left
  · have hres : Hid (r = (0, finCode ps s t)) := Lib.hid (by rw [hr.out, dearR, if_neg h0])
    go_enter Try.func31, Try.ntmps31
    go_wp2_with fail
    refine hq.out.mono ?_
    rintro e w1 ⟨A', n', c', rfl, -, hb1⟩
    generalize finCode ps s t = code at *
    have g0 : (code == 0) = false := beq_eq_false_iff_ne.2 h0
    have g1 : (code != 0) = true := by simp [h0]
    clear h0 hr
    go_wp2
    go_ret2
    exact ⟨ret_2 hres.out, hb1⟩
  obtain ⟨k1, -, -, k4⟩ := finCode_ok h0
  replace k1 := Lib.hid k1
  by_cases h2 : t.size < 2
  · have hres : Hid (r = (0, 3)) := Lib.hid (by rw [hr.out, dearR, if_pos h0, if_pos h2])
    have g2 : decide ((t.size : Int) < 2) = true := decide_eq_true (by omega)
    clear hr
    go_enter Try.func31, Try.ntmps31
    go_wp2_with fail
    refine hq.out.mono ?_
    rintro e w1 ⟨A', n', c', rfl, hOO, hbw⟩
    rw [h0]
    obtain ⟨rfl, -⟩ := hOO h0
    clear hOO h0 hq h
    go_wp2
    go_ret2
    exact ⟨ret_2 hres.out, hbw⟩
  have g2 : decide ((t.size : Int) < 2) = false := decide_eq_false (by omega)
  have hbn := Lib.hid (fun k (hk : 2 ≤ k) => bestTo_next (f := costN ps s t) hk)
  have hbl := Lib.hid (fun k (hk : 2 ≤ k) => bestTo_lt (costN ps s t) k hk)
  have hres : Hid (r = ((bestTo (costN ps s t) t.size : Int), 0)) := Lib.hid (by rw [hr.out]; rw [dearR, if_pos h0, if_neg h2])
  clear hr
  go_enter Try.func31, Try.ntmps31
  go_wp2_with fail
  refine hq.out.mono ?_
  rintro e w1 ⟨A', n', c', rfl, hOO, hbw⟩
  rw [h0]
  obtain ⟨rfl, hO⟩ := hOO h0
  have hK := hO.srow
  replace hbw := Lib.hid hbw
  clear hO hOO h0 hq h
  have hcr := Lib.hid (costN_range k1.out s t)
  go_wp2
  go_loopw [10, 11, 12] (fun d m i wr => ∃ k : Nat, 1 ≤ k ∧ k ≤ t.size ∧ i = .int .i64 k ∧ Below w1.heap.size w1 wr ∧ ((k = 1 ∧ d = .int .i64 0 ∧ m = .int .i64 (-1)) ∨ (2 ≤ k ∧ d = .int .i64 (bestTo (costN ps s t) k) ∧ m = .int .i64 (costN ps s t (bestTo (costN ps s t) k))))) (fun _ _ i _ => t.size + 1 - (intOf i).toNat)
  case atStart => exact ⟨1, by omega, by omega, rfl, Below.refl _ _, .inl ⟨rfl, rfl, rfl⟩⟩
  case round =>
    obtain ⟨k, hk1, hk, rfl, hbr, hdm⟩ := hrel
    by_cases hlt : k < t.size
    · obtain ⟨B, off, x, rfl, hB, hx, c0, c1, c2, c3⟩ := bkey_at (hK.below hbr) hlt
      obtain rfl : stk s t k = x := by have := hx.out; rw [stkL_at s t hlt] at this; exact Option.some.inj this
      obtain ⟨B', off', y, hBe, hB', hy, d0, d1, d2, d3⟩ := bkey_at (hK.below hbr) (show k - 1 < t.size by omega)
      cases hBe
      obtain rfl : stk s t (k - 1) = y := by have := hy.out; rw [stkL_at s t (show k - 1 < t.size by omega)] at this; exact Option.some.inj this
      have r0 : (0 : Int) ≤ (k : Int) := by omega
      have r1 : (k : Int) < (t.size : Int) := by omega
      have r2 : (0 : Int) ≤ (k : Int) - 1 := by omega
      have r3 : (k : Int) - 1 < (t.size : Int) := by omega
      have r4 : ((k : Int) - 1).toNat = k - 1 := by omega
      have r5 : (1 : Int) ≤ (k : Int) := by omega
      have s9 : IntKind.i64.wrap ((k : Int) - 1) = (k : Int) - 1 := IntWalk.i64_in _ (by omega)
      have hcall := Lib.hid (fun W => behind_impl ps k1.out (stk s t (k - 1)) (stk s t k) W rfl)
      have hcn : Hid (costI ps (stk s t (k - 1)) (stk s t k) = costN ps s t k) := Lib.hid (by rw [costN, if_neg (by omega)])
      rw [hcn.out] at hcall
      have hck := hcr.out k
      unfold keyV at hcall
      obtain ⟨dd, mm, rfl, rfl, hst⟩ : ∃ (dd mm : Int), u10 = .int .i64 dd ∧ u11 = .int .i64 mm ∧ Hid ((mm < costN ps s t k → ((k : Int) = bestTo (costN ps s t) (k + 1) ∧ costN ps s t k = costN ps s t (bestTo (costN ps s t) (k + 1)))) ∧ (¬ mm < costN ps s t k → (dd = bestTo (costN ps s t) (k + 1) ∧ mm = costN ps s t (bestTo (costN ps s t) (k + 1))))) := by
        rcases hdm with ⟨rfl, rfl, rfl⟩ | ⟨h2k, rfl, rfl⟩
        · refine ⟨0, -1, rfl, rfl, Lib.hid ⟨fun _ => ?_, fun hh => by omega⟩⟩
          simp [bestTo]
        · have hb := hbn.out k h2k
          refine ⟨_, _, rfl, rfl, Lib.hid ⟨fun hh => ?_, fun hh => ?_⟩⟩
          · rw [if_pos hh] at hb
            rw [hb]
            exact ⟨rfl, rfl⟩
          · rw [if_neg hh] at hb
            rw [hb]
            exact ⟨rfl, rfl⟩
      clear hdm hcn hx hy
      generalize costN ps s t k = v at *
      generalize (plc ps (stk s t k)).finger = f at *
      generalize (plc ps (stk s t k)).row = r at *
      generalize (plc ps (stk s t k)).effort = e at *
      generalize (plc ps (stk s t (k - 1))).finger = f' at *
      generalize (plc ps (stk s t (k - 1))).row = r' at *
      generalize (plc ps (stk s t (k - 1))).effort = e' at *
      by_cases hmv : mm < v
      · have g3 : decide (mm < v) = true := decide_eq_true hmv
        have hst2 := Lib.hid (hst.out.1 hmv)
        clear hst hmv
        go_wp2_with fail
        refine wp_region_held_drew (S := fun w' => Below wr.heap.size wr w' ∧ w'.cell? ⟨B, off + k * 4, none⟩ = some (.int .i64 f) ∧ w'.cell? ⟨B, off + k * 4 + 1, none⟩ = some (.int .i64 r) ∧ w'.cell? ⟨B, off + k * 4 + 2, none⟩ = some (.int .i64 e) ∧ w'.cell? ⟨B, off + k * 4 + 3, none⟩ = some (.int .i64 (stk s t k : Int)) ∧ w'.cell? ⟨B, off + (k - 1) * 4, none⟩ = some (.int .i64 f') ∧ w'.cell? ⟨B, off + (k - 1) * 4 + 1, none⟩ = some (.int .i64 r') ∧ w'.cell? ⟨B, off + (k - 1) * 4 + 2, none⟩ = some (.int .i64 e') ∧ w'.cell? ⟨B, off + (k - 1) * 4 + 3, none⟩ = some (.int .i64 (stk s t (k - 1) : Int))) (by kernel_rfl) ?_ (fun hHeld => ?_)
        · exact ⟨(Below.refl _ _).drew, c0, c1, c2, c3, d0, d1, d2, d3⟩
        refine wpAnyH_take (i := 0) (v := ?vda0) rfl (by kernel_rfl) (by kernel_rfl) (by kernel_rfl) (fun _ _ _ h => h) (Or.inl ⟨rfl, ?yda0⟩) (by assumption) ?_
        case yda0 => (intro w hSw; (try dsimp only at hSw); go_simp; first | done | with_reducible rfl)
        simp only [List.getElem_toArray, List.getElem_cons_succ, List.getElem_cons_zero, Act.put, List.setIfInBounds_toArray, List.set_cons_zero, List.set_cons_succ]
        refine wpAnyH_take (i := 1) (v := ?vda1) rfl (by kernel_rfl) (by kernel_rfl) (by kernel_rfl) (fun _ _ _ h => h) (Or.inl ⟨rfl, ?yda1⟩) (by assumption) ?_
        case yda1 => (intro w hSw; (try dsimp only at hSw); go_simp; first | done | with_reducible rfl)
        simp only [List.getElem_toArray, List.getElem_cons_succ, List.getElem_cons_zero, Act.put, List.setIfInBounds_toArray, List.set_cons_zero, List.set_cons_succ]
        refine wpAnyH_take (i := 2) (v := ?vda2) rfl (by kernel_rfl) (by kernel_rfl) (by kernel_rfl) (fun _ _ _ h => h) (Or.inl ⟨rfl, ?yda2⟩) (by assumption) ?_
        case yda2 => (intro w hSw; (try dsimp only at hSw); go_simp; first | done | with_reducible rfl)
        simp only [List.getElem_toArray, List.getElem_cons_succ, List.getElem_cons_zero, Act.put, List.setIfInBounds_toArray, List.set_cons_zero, List.set_cons_succ]
        refine wpAnyH_take (i := 3) (v := ?vda3) rfl (by kernel_rfl) (by kernel_rfl) (by kernel_rfl) (fun _ _ _ h => h) (Or.inl ⟨rfl, ?yda3⟩) (by assumption) ?_
        case yda3 => (intro w hSw; (try dsimp only at hSw); go_simp; first | done | with_reducible rfl)
        simp only [List.getElem_toArray, List.getElem_cons_succ, List.getElem_cons_zero, Act.put, List.setIfInBounds_toArray, List.set_cons_zero, List.set_cons_succ]
        refine wpAnyH_take (i := 4) (v := ?vda4) rfl (by kernel_rfl) (by kernel_rfl) (by kernel_rfl) (fun _ _ _ h => h) (Or.inl ⟨rfl, ?yda4⟩) (by assumption) ?_
        case yda4 => (intro w hSw; (try dsimp only at hSw); go_simp; first | done | with_reducible rfl)
        simp only [List.getElem_toArray, List.getElem_cons_succ, List.getElem_cons_zero, Act.put, List.setIfInBounds_toArray, List.set_cons_zero, List.set_cons_succ]
        refine wpAnyH_take (i := 5) (v := ?vda5) rfl (by kernel_rfl) (by kernel_rfl) (by kernel_rfl) (fun _ _ _ h => h) (Or.inl ⟨rfl, ?yda5⟩) (by assumption) ?_
        case yda5 => (intro w hSw; (try dsimp only at hSw); go_simp; first | done | with_reducible rfl)
        simp only [List.getElem_toArray, List.getElem_cons_succ, List.getElem_cons_zero, Act.put, List.setIfInBounds_toArray, List.set_cons_zero, List.set_cons_succ]
        refine wpAnyH_take (i := 6) (v := ?vda6) rfl (by kernel_rfl) (by kernel_rfl) (by kernel_rfl) (fun _ _ _ h => h) (Or.inl ⟨rfl, ?yda6⟩) (by assumption) ?_
        case yda6 => (intro w hSw; (try dsimp only at hSw); go_simp; first | done | with_reducible rfl)
        simp only [List.getElem_toArray, List.getElem_cons_succ, List.getElem_cons_zero, Act.put, List.setIfInBounds_toArray, List.set_cons_zero, List.set_cons_succ]
        refine wpAnyH_take (i := 7) (v := ?vda7) rfl (by kernel_rfl) (by kernel_rfl) (by kernel_rfl) (fun _ _ _ h => h) (Or.inl ⟨rfl, ?yda7⟩) (by assumption) ?_
        case yda7 => (intro w hSw; (try dsimp only at hSw); go_simp; first | done | with_reducible rfl)
        simp only [List.getElem_toArray, List.getElem_cons_succ, List.getElem_cons_zero, Act.put, List.setIfInBounds_toArray, List.set_cons_zero, List.set_cons_succ]
        refine wpAnyH_take (i := 8) (v := ?vda8) rfl (by kernel_rfl) (by kernel_rfl) (by kernel_rfl) (fun _ _ _ h => h) (Or.inl ⟨rfl, ?yda8⟩) (by assumption) ?_
        case yda8 => (intro w hSw; (try dsimp only at hSw); go_simp; first | done | with_reducible rfl)
        simp only [List.getElem_toArray, List.getElem_cons_succ, List.getElem_cons_zero, Act.put, List.setIfInBounds_toArray, List.set_cons_zero, List.set_cons_succ]
        refine wpAnyH_ready (rs := [9]) (by kernel_rfl) (by simp) ?_
        refine AllReadyH.cons rfl (fun K hK => ?_) AllReadyH.nil
        go_simp
        refine (hcall.out _).mono ?_
        rintro e w1 ⟨rfl, hb1⟩
        go_wp2_with fail
        refine hK.out _ _ ?_ (fun hHeld => ?_)
        · exact kept8 (by assumption) hb1
        clear hK K hb1
        try simp only [List.getElem_toArray, List.getElem_cons_succ, List.getElem_cons_zero, Act.put, List.setIfInBounds_toArray, List.set_cons_zero, List.set_cons_succ]
        refine wpAnyH_take (i := 10) (v := ?vda10) rfl (by kernel_rfl) (by kernel_rfl) (by kernel_rfl) (fun _ _ _ h => h) (Or.inl ⟨rfl, ?yda10⟩) (by assumption) ?_
        case yda10 => (intro w hSw; (try dsimp only at hSw); go_simp; first | done | with_reducible rfl)
        simp only [List.getElem_toArray, List.getElem_cons_succ, List.getElem_cons_zero, Act.put, List.setIfInBounds_toArray, List.set_cons_zero, List.set_cons_succ]
        refine wpAnyH_done (by kernel_rfl) ?_ _
        go_wp2
        go_roundw
        case rel => exact ⟨k + 1, by omega, by omega, by go_num, hbr.step hHeld.1, .inr ⟨by omega, by rw [hst2.out.1], by rw [hst2.out.2]⟩⟩
        case measure => simp [intOf]; omega
      · have g3 : decide (mm < v) = false := decide_eq_false hmv
        have hst2 := Lib.hid (hst.out.2 hmv)
        clear hst hmv
        go_wp2_with fail
        refine wp_region_held_drew (S := fun w' => Below wr.heap.size wr w' ∧ w'.cell? ⟨B, off + k * 4, none⟩ = some (.int .i64 f) ∧ w'.cell? ⟨B, off + k * 4 + 1, none⟩ = some (.int .i64 r) ∧ w'.cell? ⟨B, off + k * 4 + 2, none⟩ = some (.int .i64 e) ∧ w'.cell? ⟨B, off + k * 4 + 3, none⟩ = some (.int .i64 (stk s t k : Int)) ∧ w'.cell? ⟨B, off + (k - 1) * 4, none⟩ = some (.int .i64 f') ∧ w'.cell? ⟨B, off + (k - 1) * 4 + 1, none⟩ = some (.int .i64 r') ∧ w'.cell? ⟨B, off + (k - 1) * 4 + 2, none⟩ = some (.int .i64 e') ∧ w'.cell? ⟨B, off + (k - 1) * 4 + 3, none⟩ = some (.int .i64 (stk s t (k - 1) : Int))) (by kernel_rfl) ?_ (fun hHeld => ?_)
        · exact ⟨(Below.refl _ _).drew, c0, c1, c2, c3, d0, d1, d2, d3⟩
        refine wpAnyH_take (i := 0) (v := ?vdb0) rfl (by kernel_rfl) (by kernel_rfl) (by kernel_rfl) (fun _ _ _ h => h) (Or.inl ⟨rfl, ?ydb0⟩) (by assumption) ?_
        case ydb0 => (intro w hSw; (try dsimp only at hSw); go_simp; first | done | with_reducible rfl)
        simp only [List.getElem_toArray, List.getElem_cons_succ, List.getElem_cons_zero, Act.put, List.setIfInBounds_toArray, List.set_cons_zero, List.set_cons_succ]
        refine wpAnyH_take (i := 1) (v := ?vdb1) rfl (by kernel_rfl) (by kernel_rfl) (by kernel_rfl) (fun _ _ _ h => h) (Or.inl ⟨rfl, ?ydb1⟩) (by assumption) ?_
        case ydb1 => (intro w hSw; (try dsimp only at hSw); go_simp; first | done | with_reducible rfl)
        simp only [List.getElem_toArray, List.getElem_cons_succ, List.getElem_cons_zero, Act.put, List.setIfInBounds_toArray, List.set_cons_zero, List.set_cons_succ]
        refine wpAnyH_take (i := 2) (v := ?vdb2) rfl (by kernel_rfl) (by kernel_rfl) (by kernel_rfl) (fun _ _ _ h => h) (Or.inl ⟨rfl, ?ydb2⟩) (by assumption) ?_
        case ydb2 => (intro w hSw; (try dsimp only at hSw); go_simp; first | done | with_reducible rfl)
        simp only [List.getElem_toArray, List.getElem_cons_succ, List.getElem_cons_zero, Act.put, List.setIfInBounds_toArray, List.set_cons_zero, List.set_cons_succ]
        refine wpAnyH_take (i := 3) (v := ?vdb3) rfl (by kernel_rfl) (by kernel_rfl) (by kernel_rfl) (fun _ _ _ h => h) (Or.inl ⟨rfl, ?ydb3⟩) (by assumption) ?_
        case ydb3 => (intro w hSw; (try dsimp only at hSw); go_simp; first | done | with_reducible rfl)
        simp only [List.getElem_toArray, List.getElem_cons_succ, List.getElem_cons_zero, Act.put, List.setIfInBounds_toArray, List.set_cons_zero, List.set_cons_succ]
        refine wpAnyH_take (i := 4) (v := ?vdb4) rfl (by kernel_rfl) (by kernel_rfl) (by kernel_rfl) (fun _ _ _ h => h) (Or.inl ⟨rfl, ?ydb4⟩) (by assumption) ?_
        case ydb4 => (intro w hSw; (try dsimp only at hSw); go_simp; first | done | with_reducible rfl)
        simp only [List.getElem_toArray, List.getElem_cons_succ, List.getElem_cons_zero, Act.put, List.setIfInBounds_toArray, List.set_cons_zero, List.set_cons_succ]
        refine wpAnyH_take (i := 5) (v := ?vdb5) rfl (by kernel_rfl) (by kernel_rfl) (by kernel_rfl) (fun _ _ _ h => h) (Or.inl ⟨rfl, ?ydb5⟩) (by assumption) ?_
        case ydb5 => (intro w hSw; (try dsimp only at hSw); go_simp; first | done | with_reducible rfl)
        simp only [List.getElem_toArray, List.getElem_cons_succ, List.getElem_cons_zero, Act.put, List.setIfInBounds_toArray, List.set_cons_zero, List.set_cons_succ]
        refine wpAnyH_take (i := 6) (v := ?vdb6) rfl (by kernel_rfl) (by kernel_rfl) (by kernel_rfl) (fun _ _ _ h => h) (Or.inl ⟨rfl, ?ydb6⟩) (by assumption) ?_
        case ydb6 => (intro w hSw; (try dsimp only at hSw); go_simp; first | done | with_reducible rfl)
        simp only [List.getElem_toArray, List.getElem_cons_succ, List.getElem_cons_zero, Act.put, List.setIfInBounds_toArray, List.set_cons_zero, List.set_cons_succ]
        refine wpAnyH_take (i := 7) (v := ?vdb7) rfl (by kernel_rfl) (by kernel_rfl) (by kernel_rfl) (fun _ _ _ h => h) (Or.inl ⟨rfl, ?ydb7⟩) (by assumption) ?_
        case ydb7 => (intro w hSw; (try dsimp only at hSw); go_simp; first | done | with_reducible rfl)
        simp only [List.getElem_toArray, List.getElem_cons_succ, List.getElem_cons_zero, Act.put, List.setIfInBounds_toArray, List.set_cons_zero, List.set_cons_succ]
        refine wpAnyH_take (i := 8) (v := ?vdb8) rfl (by kernel_rfl) (by kernel_rfl) (by kernel_rfl) (fun _ _ _ h => h) (Or.inl ⟨rfl, ?ydb8⟩) (by assumption) ?_
        case ydb8 => (intro w hSw; (try dsimp only at hSw); go_simp; first | done | with_reducible rfl)
        simp only [List.getElem_toArray, List.getElem_cons_succ, List.getElem_cons_zero, Act.put, List.setIfInBounds_toArray, List.set_cons_zero, List.set_cons_succ]
        refine wpAnyH_ready (rs := [9]) (by kernel_rfl) (by simp) ?_
        refine AllReadyH.cons rfl (fun K hK => ?_) AllReadyH.nil
        go_simp
        refine (hcall.out _).mono ?_
        rintro e w1 ⟨rfl, hb1⟩
        go_wp2_with fail
        refine hK.out _ _ ?_ (fun hHeld => ?_)
        · exact kept8 (by assumption) hb1
        clear hK K hb1
        try simp only [List.getElem_toArray, List.getElem_cons_succ, List.getElem_cons_zero, Act.put, List.setIfInBounds_toArray, List.set_cons_zero, List.set_cons_succ]
        refine wpAnyH_take (i := 10) (v := ?vdb10) rfl (by kernel_rfl) (by kernel_rfl) (by kernel_rfl) (fun _ _ _ h => h) (Or.inl ⟨rfl, ?ydb10⟩) (by assumption) ?_
        case ydb10 => (intro w hSw; (try dsimp only at hSw); go_simp; first | done | with_reducible rfl)
        simp only [List.getElem_toArray, List.getElem_cons_succ, List.getElem_cons_zero, Act.put, List.setIfInBounds_toArray, List.set_cons_zero, List.set_cons_succ]
        refine wpAnyH_done (by kernel_rfl) ?_ _
        go_wp2
        go_roundw
        case rel => exact ⟨k + 1, by omega, by omega, by go_num, hbr.step hHeld.1, .inr ⟨by omega, by rw [hst2.out.1], by rw [hst2.out.2]⟩⟩
        case measure => simp [intOf]; omega
    · obtain rfl : k = t.size := by omega
      rcases hdm with ⟨hk, -, -⟩ | ⟨-, rfl, rfl⟩
      · omega
      · go_wp2
        go_ret2
        exact ⟨ret_2 hres.out, hbw.out.step hbr⟩
end Go.Proofs.Ytmnafnjhioeicaa
