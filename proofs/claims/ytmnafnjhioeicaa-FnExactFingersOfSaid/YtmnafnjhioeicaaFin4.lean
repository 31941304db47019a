/- Boards: the model's functions: hands, fingers, alternations, the dearest stroke, the cost of a stroke. -/
import Derived.Test.YtmnafnjhioeicaaFin3
namespace Go.Proofs.Ytmnafnjhioeicaa
open Go.RowKit Go.ChangeShapes Go.WideShapes Go.Deep
set_option linter.unusedVariables false
set_option linter.unusedSimpArgs false

theorem ret_2b {a b : Int} {p : Int × Int} (h : p = (a, b)) : (Value.tuple #[.int .i64 a, .int .i64 b]) = .tuple #[.int .i64 p.1, .int .i64 p.2] := by rw [h]

set_option maxHeartbeats 800000 in
theorem sc_spec (A : Option Addr) (n c : Nat) (ps : List PlaceD) (a b : Int) (w : World) (h : Places w A n ps) (hn : n ≤ 1048576) (hg : ∀ x ∈ ps, x.good) (ha : (Lit.int .i64 a).wf = true) (hb : (Lit.int .i64 b).wf = true) :
    Calls Try.prog 16 #[.slice A n c, .int .i64 a, .int .i64 b] w fun e w' => e = .returned (.tuple #[.int .i64 (strokeR ps a b).1, .int .i64 (strokeR ps a b).2]) ∧ Below w.heap.size w w' := by
  generalize hr : strokeR ps a b = r
  replace hr := Lib.hid hr.symm
  have hl := h.1
  clear hg ha hb
  have s1 : IntKind.i64.wrap ((n : Int) - 1) = (n : Int) - 1 := IntWalk.i64_in _ (by omega)
  cases h1 : boardOk ps with
  | false =>
    have hres : Hid (r = (0, 1)) := Lib.hid (by rw [hr.out, strokeR, h1]; rfl)
    have hq := Lib.hid (ok7_spec A n c ps w h hn h1)
    clear hr h1 hl
    go_enter Try.func16, Try.ntmps16
    go_wp2_with fail
    refine hq.out.mono ?_
    rintro e w1 ⟨rfl, hb1⟩
    go_wp2
    go_ret2
    exact ⟨ret_2 hres.out, hb1⟩
  | true =>
    have hq := Lib.hid (ok7_spec A n c ps w h hn h1)
    cases h2 : isIn a 0 ((n : Int) - 1) with
    | false =>
      have hres : Hid (r = (0, 2)) := Lib.hid (by rw [hr.out, strokeR, if_pos h1, hl, h2]; rfl)
      have hc2 := Lib.hid (fun W => in_spec h2 W)
      clear hr h1 hl h2
      go_enter Try.func16, Try.ntmps16
      go_wp2_with fail
      refine hq.out.mono ?_
      rintro e w1 ⟨rfl, hb1⟩
      go_wp2_with fail
      refine (hc2.out _).mono ?_
      rintro e w2 ⟨rfl, rfl⟩
      go_wp2
      go_ret2
      exact ⟨ret_2 hres.out, hb1⟩
    | true =>
      have hc2 := Lib.hid (fun W => in_spec h2 W)
      cases h3 : isIn b 0 ((n : Int) - 1) with
      | false =>
        have hres : Hid (r = (0, 2)) := Lib.hid (by rw [hr.out, strokeR, if_pos h1, hl, h2, h3]; rfl)
        have hc3 := Lib.hid (fun W => in_spec h3 W)
        clear hr h1 hl h2 h3
        go_enter Try.func16, Try.ntmps16
        go_wp2_with fail
        refine hq.out.mono ?_
        rintro e w1 ⟨rfl, hb1⟩
        go_wp2_with fail
        refine (hc2.out _).mono ?_
        rintro e w2 ⟨rfl, rfl⟩
        go_wp2_with fail
        refine (hc3.out _).mono ?_
        rintro e w2 ⟨rfl, rfl⟩
        go_wp2
        go_ret2
        exact ⟨ret_2 hres.out, hb1⟩
      | true =>
        have hres : Hid (r = (costI ps a.toNat b.toNat, 0)) := Lib.hid (by rw [hr.out, strokeR, if_pos h1, hl, h2, h3]; rfl)
        have hc3 := Lib.hid (fun W => in_spec h3 W)
        have ia := isIn_iff.1 h2
        have ib := isIn_iff.1 h3
        obtain ⟨x, rfl⟩ : ∃ x : Nat, a = (x : Int) := ⟨a.toNat, by omega⟩
        obtain ⟨y, rfl⟩ : ∃ y : Nat, b = (y : Int) := ⟨b.toNat, by omega⟩
        rw [Int.toNat_natCast, Int.toNat_natCast] at hres
        have hc4 := Lib.hid (fun W (hW : Places W A n ps) => cost_spec A n c ps W hW h1 x y (by omega) (by omega) rfl)
        clear hr h1 hl h2 h3 ia ib
        go_enter Try.func16, Try.ntmps16
        go_wp2_with fail
        refine hq.out.mono ?_
        rintro e w1 ⟨rfl, hb1⟩
        go_wp2_with fail
        refine (hc2.out _).mono ?_
        rintro e w2 ⟨rfl, rfl⟩
        go_wp2_with fail
        refine (hc3.out _).mono ?_
        rintro e w2 ⟨rfl, rfl⟩
        go_wp2_with fail
        refine (hc4.out _ (h.below hb1)).mono ?_
        rintro e w3 ⟨rfl, hb3⟩
        go_wp2
        go_ret2
        exact ⟨ret_2 hres.out, hb1.step hb3⟩

set_option maxHeartbeats 800000 in
theorem ho_spec (A : Option Addr) (n c : Nat) (ps : List PlaceD) (s t : ByteArray) (w : World) (h : Places w A n ps) (hn : n ≤ 1048576) (hg : ∀ x ∈ ps, x.good) (hs : s.size ≤ 1048576) (ht : t.size ≤ 1048576) :
    Calls Try.prog 20 #[.slice A n c, .string s, .string t] w fun e w' => e = .returned (.tuple #[.int .i64 (handsR ps s t).1, .int .i64 (handsR ps s t).2.1, .int .i64 (handsR ps s t).2.2]) ∧ Below w.heap.size w w' := by
  generalize hr : handsR ps s t = r
  replace hr := Lib.hid hr.symm
  have hq := Lib.hid (code7_spec A n c ps s t w h hn hs ht rfl)
  clear hg
  by_cases h0 : finCode ps s t = 0
  · have hres : Hid (r = ((cntTo (leftN ps s t) t.size : Int), (t.size : Int) - (cntTo (leftN ps s t) t.size : Int), 0)) := Lib.hid (by
      rw [hr.out, handsR, if_pos h0]
      have h1 := cntTo_not (rightN ps s t) t.size
      have h2 : (fun i => !rightN ps s t i) = leftN ps s t := by funext i; rw [leftN_is]
      rw [h2] at h1
      have : (cntTo (rightN ps s t) t.size : Int) = (t.size : Int) - (cntTo (leftN ps s t) t.size : Int) := by omega
      rw [this])
    obtain ⟨k1, k2, k3, k4⟩ := finCode_ok h0
    have hsn : s.size = n := by rw [← h.1]; exact (layB_iff.1 k3).1
    replace k2 := Lib.hid (fun i (hi : i < t.size) => textB_at k2 hi)
    rw [h0] at hq
    clear h0 hr k1 k3
    have hcl := Lib.hid (cntTo_le (leftN ps s t))
    go_enter Try.func20, Try.ntmps20
    go_wp2_with fail
    refine hq.out.mono ?_
    rintro e w1 ⟨rfl, hb1⟩
    have hP1 := h.below hb1
    replace hb1 := Lib.hid hb1
    clear h hq
    go_wp2
    go_loopw [10, 11] (fun v i wr => ∃ k : Nat, k ≤ t.size ∧ i = .int .i64 k ∧ w1 = wr ∧ v = .int .i64 (cntTo (leftN ps s t) k)) (fun _ i _ => t.size - (intOf i).toNat)
    case atStart => exact ⟨0, by omega, rfl, rfl, rfl⟩
    case round =>
      obtain ⟨k, hk, rfl, rfl, rfl⟩ := hrel
      have hle := hcl.out k
      by_cases hlt : k < t.size
      · obtain ⟨q1, q2⟩ := k2.out k hlt
        have hidx := Lib.hid (fun W => idx_spec s (t[k]'hlt) W hs)
        rw [q1] at hidx
        obtain ⟨b, off, x, rfl, hb, hx, d0, d1, d2⟩ := place_at hP1 (show stk s t k < n by omega)
        have hpx := plc_of hx.out
        have e0 : (0 : Int) ≤ (stk s t k : Int) := Int.natCast_nonneg _
        have e1 : (stk s t k : Int) < (n : Int) := by omega
        cases hf : leftN ps s t k with
        | true =>
          have hnx : Hid (cntTo (leftN ps s t) (k + 1) = cntTo (leftN ps s t) k + 1) := Lib.hid (cntTo_yes hf)
          have hlf := Lib.hid (fun W => left_spec (f := x.finger) (v := true) (by rw [← hf, leftN, hpx]) W)
          generalize cntTo (leftN ps s t) k = cc at *
          clear hf hpx q1
          generalize stk s t k = q at *
          go_wp2_with fail
          refine (hidx.out _).mono ?_
          rintro e w2 ⟨rfl, rfl⟩
          go_wp2_with fail
          refine (hlf.out _).mono ?_
          rintro e w2 ⟨rfl, rfl⟩
          go_wp2
          go_roundw
          case rel => exact ⟨k + 1, by omega, by go_num, by trivial, by rw [hnx.out]; go_num⟩
          case measure => simp [intOf]; omega
        | false =>
          have hnx : Hid (cntTo (leftN ps s t) (k + 1) = cntTo (leftN ps s t) k) := Lib.hid (cntTo_no hf)
          have hlf := Lib.hid (fun W => left_spec (f := x.finger) (v := false) (by rw [← hf, leftN, hpx]) W)
          generalize cntTo (leftN ps s t) k = cc at *
          clear hf hpx q1
          generalize stk s t k = q at *
          go_wp2_with fail
          refine (hidx.out _).mono ?_
          rintro e w2 ⟨rfl, rfl⟩
          go_wp2_with fail
          refine (hlf.out _).mono ?_
          rintro e w2 ⟨rfl, rfl⟩
          go_wp2
          go_roundw
          case rel => exact ⟨k + 1, by omega, by go_num, by trivial, by rw [hnx.out]⟩
          case measure => simp [intOf]; omega
      · obtain rfl : k = t.size := by omega
        generalize cntTo (leftN ps s t) t.size = cc at *
        have s1 : IntKind.i64.wrap ((t.size : Int) - (cc : Int)) = (t.size : Int) - (cc : Int) := IntWalk.i64_in _ (by omega)
        go_wp2
        go_ret3
        exact ⟨ret_3 hres.out, hb1.out⟩
  · have hres : Hid (r = (0, 0, finCode ps s t)) := Lib.hid (by rw [hr.out, handsR, if_neg h0])
    generalize finCode ps s t = code at *
    have g0 : (code == 0) = false := beq_eq_false_iff_ne.2 h0
    have g1 : (code != 0) = true := by simp [h0]
    clear h0 hr
    go_enter Try.func20, Try.ntmps20
    go_wp2_with fail
    refine hq.out.mono ?_
    rintro e w1 ⟨rfl, hb1⟩
    go_wp2
    go_ret3
    exact ⟨ret_3 hres.out, hb1⟩

set_option maxHeartbeats 1600000 in
theorem ao_spec (A : Option Addr) (n c : Nat) (ps : List PlaceD) (s t : ByteArray) (w : World) (h : Places w A n ps) (hn : n ≤ 1048576) (hg : ∀ x ∈ ps, x.good) (hs : s.size ≤ 1048576) (ht : t.size ≤ 1048576) :
    Calls Try.prog 28 #[.slice A n c, .string s, .string t] w fun e w' => e = .returned (.tuple #[.int .i64 (altR ps s t).1, .int .i64 (altR ps s t).2]) ∧ Below w.heap.size w w' := by
  generalize hr : altR ps s t = r
  replace hr := Lib.hid hr.symm
  have hq := Lib.hid (code7_spec A n c ps s t w h hn hs ht rfl)
  clear hg
  by_cases h0 : finCode ps s t = 0
  · have hres : Hid (r = ((cntTo (altN ps s t) (t.size - 1) : Int), 0)) := Lib.hid (by rw [hr.out, altR, if_pos h0])
    obtain ⟨k1, k2, k3, k4⟩ := finCode_ok h0
    have hsn : s.size = n := by rw [← h.1]; exact (layB_iff.1 k3).1
    replace k2 := Lib.hid (fun i (hi : i < t.size) => textB_at k2 hi)
    rw [h0] at hq
    clear h0 hr k1 k3
    have hcl := Lib.hid (cntTo_le (altN ps s t))
    go_enter Try.func28, Try.ntmps28
    go_wp2_with fail
    refine hq.out.mono ?_
    rintro e w1 ⟨rfl, hb1⟩
    have hP1 := h.below hb1
    replace hb1 := Lib.hid hb1
    clear h hq
    go_wp2
    go_loopw [9, 10] (fun v i wr => ∃ k : Nat, 1 ≤ k ∧ (k ≤ t.size ∨ k = 1) ∧ i = .int .i64 k ∧ w1 = wr ∧ v = .int .i64 (cntTo (altN ps s t) (k - 1))) (fun _ i _ => t.size + 1 - (intOf i).toNat)
    case atStart => exact ⟨1, by omega, by omega, rfl, rfl, rfl⟩
    case round =>
      obtain ⟨k, hk1, hk, rfl, rfl, rfl⟩ := hrel
      have hle := hcl.out (k - 1)
      by_cases hlt : k < t.size
      · obtain ⟨q1, q2⟩ := k2.out k hlt
        obtain ⟨p1, p2⟩ := k2.out (k - 1) (by omega)
        have hidx := Lib.hid (fun W => idx_spec s (t[k]'hlt) W hs)
        have hidx2 := Lib.hid (fun W => idx_spec s (t[k - 1]'(by omega)) W hs)
        rw [q1] at hidx
        rw [p1] at hidx2
        have hPr := hP1
        obtain ⟨b, off, x, rfl, hb, hx, d0, d1, d2⟩ := place_at hPr (show stk s t k < n by omega)
        obtain ⟨b', off', y, hBe, hb', hy, f0, f1, f2⟩ := place_at hPr (show stk s t (k - 1) < n by omega)
        cases hBe
        have hpx := plc_of hx.out
        have hpy := plc_of hy.out
        have e0 : (0 : Int) ≤ (stk s t k : Int) := Int.natCast_nonneg _
        have e1 : (stk s t k : Int) < (n : Int) := by omega
        have e2 : (0 : Int) ≤ (stk s t (k - 1) : Int) := Int.natCast_nonneg _
        have e3 : (stk s t (k - 1) : Int) < (n : Int) := by omega
        have r0 : (0 : Int) ≤ (k : Int) := by omega
        have r1 : (k : Int) < (t.size : Int) := by omega
        have r2 : (0 : Int) ≤ (k : Int) - 1 := by omega
        have r3 : (k : Int) - 1 < (t.size : Int) := by omega
        have r4 : ((k : Int) - 1).toNat = k - 1 := by omega
        have s1 : IntKind.i64.wrap ((k : Int) - 1) = (k : Int) - 1 := IntWalk.i64_in _ (by omega)
        have hlx := Lib.hid (fun W => left_spec (f := x.finger) rfl W)
        have hly := Lib.hid (fun W => left_spec (f := y.finger) rfl W)
        have halt : Hid (altN ps s t (k - 1) = !(decide (y.finger ≤ 3) == decide (x.finger ≤ 3))) := Lib.hid (by
          have h1 := leftN_is ps s t k
          have h2 := leftN_is ps s t (k - 1)
          have hkk : k - 1 + 1 = k := by omega
          rw [altN, hkk]
          rw [leftN, hpx] at h1
          rw [leftN, hpy] at h2
          rw [h1, h2]
          cases rightN ps s t k <;> cases rightN ps s t (k - 1) <;> rfl)
        have hkk : Hid (k + 1 - 1 = k - 1 + 1) := Lib.hid (by omega)
        have hcn := Lib.hid (fun h => cntTo_yes (f := altN ps s t) (k := k - 1) h)
        have hcn' := Lib.hid (fun h => cntTo_no (f := altN ps s t) (k := k - 1) h)
        generalize decide (x.finger ≤ 3) = u at *
        generalize decide (y.finger ≤ 3) = z at *
        clear hpx hpy q1 p1
        cases hzu : (z == u) with
        | true =>
          have hnx : Hid (cntTo (altN ps s t) (k + 1 - 1) = cntTo (altN ps s t) (k - 1)) := Lib.hid (by rw [hkk.out, hcn'.out (by rw [halt.out, hzu]; rfl)])
          have hzu' : (z != u) = false := by simp only [bne, hzu]; rfl
          clear halt hcn hcn'
          generalize cntTo (altN ps s t) (k - 1) = cc at *
          generalize stk s t k = q at *
          generalize stk s t (k - 1) = p at *
          go_wp2_with fail
          refine (hidx2.out _).mono ?_
          rintro e w2 ⟨rfl, rfl⟩
          go_wp2_with fail
          refine (hidx.out _).mono ?_
          rintro e w2 ⟨rfl, rfl⟩
          go_wp2_with fail
          refine (hly.out _).mono ?_
          rintro e w2 ⟨rfl, rfl⟩
          go_wp2_with fail
          refine (hlx.out _).mono ?_
          rintro e w2 ⟨rfl, rfl⟩
          go_wp2
          go_roundw
          case rel => exact ⟨k + 1, by omega, by omega, by go_num, by trivial, by rw [hnx.out]⟩
          case measure => simp [intOf]; omega
        | false =>
          have hnx : Hid (cntTo (altN ps s t) (k + 1 - 1) = cntTo (altN ps s t) (k - 1) + 1) := Lib.hid (by rw [hkk.out, hcn.out (by rw [halt.out, hzu]; rfl)])
          have hzu' : (z != u) = true := by simp only [bne, hzu]; rfl
          clear halt hcn hcn'
          generalize cntTo (altN ps s t) (k - 1) = cc at *
          generalize stk s t k = q at *
          generalize stk s t (k - 1) = p at *
          go_wp2_with fail
          refine (hidx2.out _).mono ?_
          rintro e w2 ⟨rfl, rfl⟩
          go_wp2_with fail
          refine (hidx.out _).mono ?_
          rintro e w2 ⟨rfl, rfl⟩
          go_wp2_with fail
          refine (hly.out _).mono ?_
          rintro e w2 ⟨rfl, rfl⟩
          go_wp2_with fail
          refine (hlx.out _).mono ?_
          rintro e w2 ⟨rfl, rfl⟩
          go_wp2
          go_roundw
          case rel => exact ⟨k + 1, by omega, by omega, by go_num, by trivial, by rw [hnx.out]; go_num⟩
          case measure => simp [intOf]; omega
      · have hkt : Hid (cntTo (altN ps s t) (k - 1) = cntTo (altN ps s t) (t.size - 1)) := Lib.hid (by congr 1; omega)
        go_wp2
        go_ret2
        exact ⟨ret_2 (by rw [hres.out, hkt.out]), hb1.out⟩
  · have hres : Hid (r = (0, finCode ps s t)) := Lib.hid (by rw [hr.out, altR, if_neg h0])
    generalize finCode ps s t = code at *
    have g0 : (code == 0) = false := beq_eq_false_iff_ne.2 h0
    have g1 : (code != 0) = true := by simp [h0]
    clear h0 hr
    go_enter Try.func28, Try.ntmps28
    go_wp2_with fail
    refine hq.out.mono ?_
    rintro e w1 ⟨rfl, hb1⟩
    go_wp2
    go_ret2
    exact ⟨ret_2 hres.out, hb1⟩
end Go.Proofs.Ytmnafnjhioeicaa
