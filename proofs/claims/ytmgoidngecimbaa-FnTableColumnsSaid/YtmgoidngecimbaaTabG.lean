/- WidestGap: the model's function and the program's. -/
import Derived.Test.YtmgoidngecimbaaTabW
namespace Go.Proofs.Ytmgoidngecimbaa
open Go.RowKit Go.ChangeShapes Go.WideShapes Go.Deep
set_option linter.unusedVariables false
set_option linter.unusedSimpArgs false

theorem gapR_no {ws : List Int} {left right : Int} (h : gapOk ws left right = false) : gapR ws left right = (0, 2) := by simp [gapR, h]
theorem gapR_yes {ws : List Int} {left right : Int} (h : gapOk ws left right = true) :
    gapR ws left right = if ws.length = 1 then (0, 6) else if right - left - sumI ws < (ws.length : Int) - 1 then (0, 5) else ((right - left - sumI ws).tdiv ((ws.length : Int) - 1), 0) := by simp [gapR, h]

set_option maxRecDepth 100000 in
set_option maxHeartbeats 3200000 in
theorem wg_spec (A : Option Addr) (n c : Nat) (ws : List Int) (left right : Int) (w : World) (h : Ints w A n ws) (hn : n ≤ 1048576) (hx : ∀ x ∈ ws, intGood x) (hlw : (Lit.int .i64 left).wf = true) (hgw : (Lit.int .i64 right).wf = true) :
    Calls Try.prog 15 #[.slice A n c, .int .i64 left, .int .i64 right] w fun e w' => e = .returned (.tuple #[.int .i64 (gapR ws left right).1, .int .i64 (gapR ws left right).2]) ∧ Below w.heap.size w w' := by
  generalize hr : gapR ws left right = r
  replace hr := Lib.hid hr.symm
  have hl := Lib.hid h.1
  clear hx hlw hgw
  cases h1 : widthsB ws with
  | false =>
    have hres : Hid (r = (0, 2)) := Lib.hid (by rw [hr.out, gapR_no (by simp [gapOk, h1])])
    have hc1 := Lib.hid (cw_spec A n c ws h1 w h hn)
    clear h1 hr h
    go_enter Try.func15, Try.ntmps15
    go_wp2_with fail
    refine hc1.out.mono ?_
    rintro e w1 ⟨rfl, hb1⟩
    go_wp2
    go_ret2
    exact ⟨ret8_2 hres.out, hb1⟩
  | true =>
    have hc1 := Lib.hid (cw_spec A n c ws h1 w h hn)
    cases h2 : inR left 0 120 with
    | false =>
      have hres : Hid (r = (0, 2)) := Lib.hid (by rw [hr.out, gapR_no (by simp [gapOk, h2])])
      have hc2 := Lib.hid (fun W => in8_spec h2 W)
      clear h1 h2 hr h
      go_enter Try.func15, Try.ntmps15
      go_wp2_with fail
      refine hc1.out.mono ?_
      rintro e w1 ⟨rfl, hb1⟩
      go_wp2_with fail
      refine (hc2.out _).mono ?_
      rintro e w2 ⟨rfl, rfl⟩
      go_wp2
      go_ret2
      exact ⟨ret8_2 hres.out, hb1⟩
    | true =>
      have hc2 := Lib.hid (fun W => in8_spec h2 W)
      cases h3 : inR right left 120 with
      | false =>
        have hres : Hid (r = (0, 2)) := Lib.hid (by rw [hr.out, gapR_no (by simp [gapOk, h3])])
        have hc3 := Lib.hid (fun W => in8_spec h3 W)
        clear h1 h2 h3 hr h
        go_enter Try.func15, Try.ntmps15
        go_wp2_with fail
        refine hc1.out.mono ?_
        rintro e w1 ⟨rfl, hb1⟩
        go_wp2_with fail
        refine (hc2.out _).mono ?_
        rintro e w2 ⟨rfl, rfl⟩
        go_wp2_with fail
        refine (hc3.out _).mono ?_
        rintro e w2 ⟨rfl, rfl⟩
        go_wp2
        go_ret2
        exact ⟨ret8_2 hres.out, hb1⟩
      | true =>
        have hc3 := Lib.hid (fun W => in8_spec h3 W)
        have hok : gapOk ws left right = true := by simp [gapOk, h1, h2, h3]
        have hres := Lib.hid (hr.out.trans (gapR_yes hok))
        obtain ⟨n1, n12, hwr⟩ := widthsB_len h1
        have hres2 := hres.out
        rw [hl.out] at n1 n12 hres2
        replace hres := Lib.hid hres2
        clear hres2
        obtain ⟨l0, l1⟩ := inR_iff.1 h2
        obtain ⟨p0, p1⟩ := inR_iff.1 h3
        have hrg := Lib.hid (fun k => sumI_range (ws.take k) (fun x hx => hwr x (List.mem_of_mem_take hx)))
        have hww := Lib.hid hwr
        clear h1 h2 h3 hr hwr hok
        have w1n : IntKind.i64.wrap ((n : Int) - 1) = (n : Int) - 1 := IntWalk.i64_in _ (by omega)
        have wrl : IntKind.i64.wrap (right - left) = right - left := IntWalk.i64_in _ (by omega)
        by_cases hn1 : n = 1
        · have hbad : Hid (r = (0, 6)) := Lib.hid (by rw [hres.out, if_pos hn1])
          have e0 : ((n : Int) == 1) = true := by simp; omega
          have e1 : ((n : Int) - 1 == 0) = true := by simp; omega
          have e2 : (n == 1) = true := by simp; omega
          clear hres hrg hww
          clear hn1
          go_enter Try.func15, Try.ntmps15
          go_wp2_with fail
          refine hc1.out.mono ?_
          rintro e w1 ⟨rfl, hb1⟩
          go_wp2_with fail
          refine (hc2.out _).mono ?_
          rintro e w2 ⟨rfl, rfl⟩
          go_wp2_with fail
          refine (hc3.out _).mono ?_
          rintro e w2 ⟨rfl, rfl⟩
          go_wp2
          go_ret2
          exact ⟨ret8_2 hbad.out, hb1⟩
        · have hres2 := Lib.hid (hres.out.trans (if_neg hn1))
          have e0 : ((n : Int) == 1) = false := beq_eq_false_iff_ne.2 (by omega)
          have e1 : ((n : Int) - 1 == 0) = false := beq_eq_false_iff_ne.2 (by omega)
          have e2 : (n == 1) = false := beq_eq_false_iff_ne.2 (by omega)
          have e3 : (n : Int) - 1 ≠ 0 := by omega
          replace e3 := Lib.hid e3
          clear hres
          go_enter Try.func15, Try.ntmps15
          go_wp2_with fail
          refine hc1.out.mono ?_
          rintro e w1 ⟨rfl, hb1⟩
          have hS := h.below hb1
          go_wp2_with fail
          refine (hc2.out _).mono ?_
          rintro e w2 ⟨rfl, rfl⟩
          go_wp2_with fail
          refine (hc3.out _).mono ?_
          rintro e w2 ⟨rfl, rfl⟩
          clear hc1 hc2 hc3 h
          obtain ⟨r0, r1⟩ := hrg.out n
          have hlk : (ws.take n).length ≤ 12 := by rw [List.length_take, hl.out]; omega
          rw [List.take_of_length_le (by rw [hl.out]; omega)] at r0 r1 hlk
          have hsum := Lib.hid (sum8_spec A n c ws n12 hww.out w1 hS rfl)
          generalize sumI ws = s at *
          have w2 : IntKind.i64.wrap (right - left - s) = right - left - s := IntWalk.i64_in _ (by omega)
          by_cases hlt : right - left - s < (n : Int) - 1
          · have hbad : Hid (r = (0, 5)) := Lib.hid (by rw [hres2.out, if_pos hlt])
            clear hres2 hrg hww
            go_wp2_with fail
            refine hsum.out.mono ?_
            rintro e w3 ⟨rfl, hb3⟩
            go_wp2
            go_ret2
            exact ⟨ret8_2 hbad.out, hb1.step hb3⟩
          · have hgood : Hid (r = ((right - left - s).tdiv ((n : Int) - 1), 0)) := Lib.hid (by rw [hres2.out, if_neg hlt])
            have w3 : IntKind.i64.wrap ((right - left - s).tdiv ((n : Int) - 1)) = (right - left - s).tdiv ((n : Int) - 1) := IntWalk.i64_in _ (by
              have q0 : 0 ≤ right - left - s := by omega
              have q1 : 0 ≤ (n : Int) - 1 := by omega
              have := Int.tdiv_nonneg q0 q1
              have := Int.tdiv_le_self ((n : Int) - 1) q0
              omega)
            have e3' := e3.out
            clear hres2 hrg hww
            go_wp2_with fail
            refine hsum.out.mono ?_
            rintro e w3 ⟨rfl, hb3⟩
            go_wp2
            go_ret2
            exact ⟨ret8_2 hgood.out, hb1.step hb3⟩

set_option maxRecDepth 100000 in
set_option maxHeartbeats 3200000 in
theorem wg_impl (A : Option Addr) (n c : Nat) (ws : List Int) (left right : Int) (w : World) (h : Ints w A n ws) (hn : n ≤ 1048576) (hx : ∀ x ∈ ws, intGood x) (hlw : (Lit.int .i64 left).wf = true) (hgw : (Lit.int .i64 right).wf = true) :
    Calls Try.prog 14 #[.slice A n c, .int .i64 left, .int .i64 right] w fun e w' => e = .returned (.tuple #[.int .i64 (gapR ws left right).1, .int .i64 (gapR ws left right).2]) ∧ Below w.heap.size w w' := by
  generalize hr : gapR ws left right = r
  replace hr := Lib.hid hr.symm
  have hl := Lib.hid h.1
  clear hx hlw hgw
  cases h1 : widthsB ws with
  | false =>
    have hres : Hid (r = (0, 2)) := Lib.hid (by rw [hr.out, gapR_no (by simp [gapOk, h1])])
    have hc1 := Lib.hid (cw_impl A n c ws h1 w h hn)
    clear h1 hr h
    go_enter Try.func14, Try.ntmps14
    go_wp2_with fail
    refine hc1.out.mono ?_
    rintro e w1 ⟨rfl, hb1⟩
    go_wp2
    go_ret2
    exact ⟨ret8_2 hres.out, hb1⟩
  | true =>
    have hc1 := Lib.hid (cw_impl A n c ws h1 w h hn)
    cases h2 : inR right 0 120 with
    | false =>
      have hres : Hid (r = (0, 2)) := Lib.hid (by rw [hr.out, gapR_no (by simp [gapOk_eq, h2])])
      have hc2 := Lib.hid (fun W => in8_impl h2 W)
      clear h1 h2 hr h
      go_enter Try.func14, Try.ntmps14
      go_wp2_with fail
      refine hc1.out.mono ?_
      rintro e w1 ⟨rfl, hb1⟩
      go_wp2_with fail
      refine (hc2.out _).mono ?_
      rintro e w2 ⟨rfl, rfl⟩
      go_wp2
      go_ret2
      exact ⟨ret8_2 hres.out, hb1⟩
    | true =>
      have hc2 := Lib.hid (fun W => in8_impl h2 W)
      cases h3 : inR left 0 right with
      | false =>
        have hres : Hid (r = (0, 2)) := Lib.hid (by rw [hr.out, gapR_no (by simp [gapOk_eq, h3])])
        have hc3 := Lib.hid (fun W => in8_impl h3 W)
        clear h1 h2 h3 hr h
        go_enter Try.func14, Try.ntmps14
        go_wp2_with fail
        refine hc1.out.mono ?_
        rintro e w1 ⟨rfl, hb1⟩
        go_wp2_with fail
        refine (hc2.out _).mono ?_
        rintro e w2 ⟨rfl, rfl⟩
        go_wp2_with fail
        refine (hc3.out _).mono ?_
        rintro e w2 ⟨rfl, rfl⟩
        go_wp2
        go_ret2
        exact ⟨ret8_2 hres.out, hb1⟩
      | true =>
        have hc3 := Lib.hid (fun W => in8_impl h3 W)
        have hok : gapOk ws left right = true := by simp [gapOk_eq, h1, h2, h3]
        have hres := Lib.hid (hr.out.trans (gapR_yes hok))
        obtain ⟨n1, n12, hwr⟩ := widthsB_len h1
        have hres2 := hres.out
        rw [hl.out] at n1 n12 hres2
        replace hres := Lib.hid hres2
        clear hres2
        obtain ⟨l0, l1⟩ := inR_iff.1 h2
        obtain ⟨p0, p1⟩ := inR_iff.1 h3
        have hrg := Lib.hid (fun k => sumI_range (ws.take k) (fun x hx => hwr x (List.mem_of_mem_take hx)))
        have hww := Lib.hid hwr
        clear h1 h2 h3 hr hwr hok
        have w1n : IntKind.i64.wrap ((n : Int) - 1) = (n : Int) - 1 := IntWalk.i64_in _ (by omega)
        have wrl : IntKind.i64.wrap (right - left) = right - left := IntWalk.i64_in _ (by omega)
        by_cases hn1 : n = 1
        · have hbad : Hid (r = (0, 6)) := Lib.hid (by rw [hres.out, if_pos hn1])
          have e0 : ((n : Int) == 1) = true := by simp; omega
          have e1 : ((n : Int) - 1 == 0) = true := by simp; omega
          have e2 : (n == 1) = true := by simp; omega
          clear hres hrg hww
          clear hn1
          go_enter Try.func14, Try.ntmps14
          go_wp2_with fail
          refine hc1.out.mono ?_
          rintro e w1 ⟨rfl, hb1⟩
          go_wp2_with fail
          refine (hc2.out _).mono ?_
          rintro e w2 ⟨rfl, rfl⟩
          go_wp2_with fail
          refine (hc3.out _).mono ?_
          rintro e w2 ⟨rfl, rfl⟩
          go_wp2
          go_ret2
          exact ⟨ret8_2 hbad.out, hb1⟩
        · have hres2 := Lib.hid (hres.out.trans (if_neg hn1))
          have e0 : ((n : Int) == 1) = false := beq_eq_false_iff_ne.2 (by omega)
          have e1 : ((n : Int) - 1 == 0) = false := beq_eq_false_iff_ne.2 (by omega)
          have e2 : (n == 1) = false := beq_eq_false_iff_ne.2 (by omega)
          have e3 : (n : Int) - 1 ≠ 0 := by omega
          replace e3 := Lib.hid e3
          clear hres
          go_enter Try.func14, Try.ntmps14
          go_wp2_with fail
          refine hc1.out.mono ?_
          rintro e w1 ⟨rfl, hb1⟩
          have hS := h.below hb1
          go_wp2_with fail
          refine (hc2.out _).mono ?_
          rintro e w2 ⟨rfl, rfl⟩
          go_wp2_with fail
          refine (hc3.out _).mono ?_
          rintro e w2 ⟨rfl, rfl⟩
          clear hc1 hc2 hc3 h
          go_wp2
          go_loopw [9, 36] (fun rm i wr => ∃ k : Nat, k ≤ n ∧ i = .int .i64 k ∧ rm = .int .i64 (right - left - sumI (ws.take k)) ∧ Below w1.heap.size w1 wr) (fun _ i _ => n - (intOf i).toNat)
          case atStart => exact ⟨0, by omega, rfl, by simp [sumI], Below.refl _ _⟩
          case round =>
            obtain ⟨k, hk, rfl, rfl, hbw⟩ := hrel
            by_cases hlt : k < n
            · obtain ⟨b, off, x, rfl, hb, hx, c0⟩ := int_at (hS.below hbw) hlt
              have hst := Lib.hid (show sumI (ws.take (k + 1)) = sumI (ws.take k) + x by rw [take8 hx.out, sumI_snoc])
              obtain ⟨r0, r1⟩ := hrg.out k
              have hlk : (ws.take k).length ≤ 12 := by rw [List.length_take, hl.out]; omega
              have hxx := hww.out x (List.mem_of_getElem? hx.out)
              have hk0 : (0 : Int) ≤ (k : Int) := Int.natCast_nonneg _
              have hk1 : (k : Int) < (n : Int) := by omega
              have hwr : IntKind.i64.wrap (right - left - sumI (ws.take k) - x) = right - left - sumI (ws.take k) - x := IntWalk.i64_in _ (by omega)
              generalize sumI (ws.take k) = a at *
              have has := Lib.hid (show right - left - (a + x) = right - left - a - x by omega)
              clear r0 r1 hlk hxx
              go_wp2
              go_roundw
              case rel => exact ⟨k + 1, by omega, by go_num, by rw [hst.out, has.out], hbw⟩
              case measure => simp [intOf]; omega
            · obtain rfl : k = n := by omega
              rw [List.take_of_length_le (by rw [hl.out]; omega)]
              obtain ⟨r0, r1⟩ := hrg.out k
              have hlk : (ws.take k).length ≤ 12 := by rw [List.length_take, hl.out]; omega
              rw [List.take_of_length_le (by rw [hl.out]; omega)] at r0 r1 hlk
              generalize sumI ws = s at *
              have w2 : IntKind.i64.wrap (right - left - s) = right - left - s := IntWalk.i64_in _ (by omega)
              by_cases hlt : right - left - s < (k : Int) - 1
              · have hbad : Hid (r = (0, 5)) := Lib.hid (by rw [hres2.out, if_pos hlt])
                clear hres2 hrg hww
                go_wp2
                go_ret2
                exact ⟨ret8_2 hbad.out, hb1.step hbw⟩
              · have hgood : Hid (r = ((right - left - s).tdiv ((k : Int) - 1), 0)) := Lib.hid (by rw [hres2.out, if_neg hlt])
                have w3 : IntKind.i64.wrap ((right - left - s).tdiv ((k : Int) - 1)) = (right - left - s).tdiv ((k : Int) - 1) := IntWalk.i64_in _ (by
                  have q0 : 0 ≤ right - left - s := by omega
                  have q1 : 0 ≤ (k : Int) - 1 := by omega
                  have := Int.tdiv_nonneg q0 q1
                  have := Int.tdiv_le_self ((k : Int) - 1) q0
                  omega)
                have e3' := e3.out
                clear hres2 hrg hww
                go_wp2
                go_ret2
                exact ⟨ret8_2 hgood.out, hb1.step hbw⟩
end Go.Proofs.Ytmgoidngecimbaa
