/- Racks of stops: the program's search, and the next stop. -/
import Derived.Test.YtlmjoekiflnjgaaTab1
namespace Go.Proofs.Ytlmjoekiflnjgaa
open Go.RowKit Go.ChangeShapes Go.WideShapes Go.Deep
set_option linter.unusedVariables false
set_option linter.unusedSimpArgs false

theorem nan8a (x : Int) (w : World) : Calls Try.prog 51 #[.int .i64 x] w fun e w' => e = .returned (.bool false) ∧ w = w' := by
  go_enter Try.func51, Try.ntmps51
  go_wp2
  go_ret
  exact ⟨by simp, rfl⟩
theorem nan8b (x : Int) (w : World) : Calls Try.prog 57 #[.int .i64 x] w fun e w' => e = .returned (.bool false) ∧ w = w' := by
  go_enter Try.func57, Try.ntmps57
  go_wp2
  go_ret
  exact ⟨by simp, rfl⟩
theorem less8 {x y : Int} {v : Bool} (hv : decide (x < y) = v) (w : World) : Calls Try.prog 50 #[.int .i64 x, .int .i64 y] w fun e w' => e = .returned (.bool v) ∧ w = w' := by
  replace hv := Lib.hid hv
  go_enter Try.func50, Try.ntmps50
  go_wp2_with fail
  refine (nan8b x _).mono ?_
  rintro e w1 ⟨rfl, rfl⟩
  go_wp2
  go_ret
  exact ⟨ret_bo hv.out, rfl⟩
set_option maxRecDepth 100000 in
set_option maxHeartbeats 1600000 in
theorem search8 (A : Option Addr) (n c : Nat) (ps : List Int) (t : Int) (w : World) (h : Ints w A n ps) (hn : n ≤ 12) (hs : ∀ (a b : Nat) (x y : Int), a < b → ps[a]? = some x → ps[b]? = some y → x < y) {v : Bool} (hv : (ps[lowI8 t ps]? == some t) = v) :
    Calls Try.prog 40 #[.slice A n c, .int .i64 t] w fun e w' => e = .returned (.tuple #[.int .i64 (lowI8 t ps : Nat), .bool v]) ∧ w = w' := by
  have hs0 := Lib.hid hs
  have hv0 := Lib.hid hv
  have hl := Lib.hid h.1
  clear hs hv
  go_enter Try.func40, Try.ntmps40
  go_wp2
  go_loopw [7, 8] (fun s7 s8 wr => ∃ i j : Nat, s7 = .int .i64 i ∧ s8 = .int .i64 j ∧ i ≤ j ∧ j ≤ n ∧ w = wr ∧ (∀ (q : Nat) (x : Int), q < i → ps[q]? = some x → x < t) ∧ (∀ (q : Nat) (x : Int), j ≤ q → ps[q]? = some x → t ≤ x)) (fun s7 s8 _ => (intOf s8).toNat - (intOf s7).toNat)
  case atStart => exact ⟨0, n, rfl, rfl, by omega, by omega, rfl, fun q x h => absurd h (by omega), fun q x hq hx => by
    have := (List.getElem?_eq_some_iff.1 hx).1
    have := hl.out
    omega⟩
  case round =>
    obtain ⟨i, j, rfl, rfl, hij, hjn, rfl, h1, h2⟩ := hrel
    replace h1 := Lib.hid h1
    replace h2 := Lib.hid h2
    by_cases hlt : i < j
    · obtain ⟨b, off, y, rfl, hb, hy, c0⟩ := int_at (k := (i + j) / 2) h (by omega)
      by_cases hyt : y < t
      · have hc := Lib.hid (fun W => less8 (x := y) (y := t) (decide_eq_true hyt) W)
        go_wp2_with fail
        refine (hc.out _).mono ?_
        rintro e w1 ⟨rfl, rfl⟩
        go_wp2
        go_roundw
        case rel => exact ⟨(i + j) / 2 + 1, j, by rw [show ((i : Int) + (j : Int)) / 2 + 1 = (((i + j) / 2 + 1 : Nat) : Int) by omega], rfl, by omega, hjn, by trivial, fun q x hq hx => by
          rcases Nat.lt_or_ge q ((i + j) / 2) with h3 | h3
          · have := hs0.out q ((i + j) / 2) x y h3 hx hy.out
            omega
          · obtain rfl : q = (i + j) / 2 := by omega
            rw [hy.out] at hx
            cases hx
            exact hyt, h2.out⟩
        case measure => simp [intOf]; omega
      · have hc := Lib.hid (fun W => less8 (x := y) (y := t) (decide_eq_false hyt) W)
        go_wp2_with fail
        refine (hc.out _).mono ?_
        rintro e w1 ⟨rfl, rfl⟩
        go_wp2
        go_roundw
        case rel => exact ⟨i, (i + j) / 2, rfl, by rw [show ((i : Int) + (j : Int)) / 2 = (((i + j) / 2 : Nat) : Int) by omega], by omega, by omega, by trivial, h1.out, fun q x hq hx => by
          rcases Nat.lt_or_ge ((i + j) / 2) q with h3 | h3
          · have := hs0.out ((i + j) / 2) q y x h3 hy.out hx
            omega
          · obtain rfl : q = (i + j) / 2 := by omega
            rw [hy.out] at hx
            cases hx
            omega⟩
        case measure => simp [intOf]; omega
    · obtain rfl : i = j := by omega
      have hend := Lib.hid (lowI8_end t ps i (by rw [hl.out]; omega) h1.out (fun q x hq hx => by have := h2.out q x hq hx; omega))
      by_cases hin : i < n
      · obtain ⟨b, off, y, rfl, hb, hy, c0⟩ := int_at (k := i) h (by omega)
        have hi0 : (0 : Int) ≤ (i : Int) := Int.natCast_nonneg _
        have hi1 : (i : Int) < (n : Int) := by omega
        by_cases hyt : y = t
        · have hvt : Hid (v = true) := Lib.hid (by rw [← hv0.out, ← hend.out, hy.out, hyt]; simp)
          have e0 : (y == t) = true := beq_iff_eq.2 hyt
          replace hyt := Lib.hid hyt
          go_wp2
          go_ret2
          exact ⟨by rw [← hend.out, hvt.out]; rfl, rfl⟩
        · have hvt : Hid (v = false) := Lib.hid (by rw [← hv0.out, ← hend.out, hy.out]; simpa using hyt)
          have e0 : (y == t) = false := beq_eq_false_iff_ne.2 hyt
          replace hyt := Lib.hid hyt
          go_wp2_with fail
          refine (nan8a y _).mono ?_
          rintro e w1 ⟨rfl, rfl⟩
          go_wp2
          go_ret2
          exact ⟨by rw [← hend.out, hvt.out]; rfl, rfl⟩
      · have hvt : Hid (v = false) := Lib.hid (by rw [← hv0.out, ← hend.out, List.getElem?_eq_none (by rw [hl.out]; omega)]; rfl)
        have e0 : decide (i < n) = false := decide_eq_false hin
        go_wp2
        go_ret2
        exact ⟨by rw [← hend.out, hvt.out]; rfl, rfl⟩

def findT (ps : List Int) (m q : Int) : Value := if q = 0 then .tuple #[.int .i64 (lowI8 m ps : Nat), .bool (ps.contains m), .int .i64 0] else .tuple #[.int .i64 0, .bool false, .int .i64 q]
theorem find8 (A : Option Addr) (n c : Nat) (ps : List Int) (m : Int) (w : World) (h : Ints w A n ps) (hn : n ≤ 1048576) {q : Int} (hq : rackCode ps m = q) {v : Bool} (hv : ps.contains m = v) :
    Calls Try.prog 21 #[.slice A n c, .int .i64 m] w fun e w' => e = .returned (if q = 0 then .tuple #[.int .i64 (lowI8 m ps : Nat), .bool v, .int .i64 0] else .tuple #[.int .i64 0, .bool false, .int .i64 q]) ∧ Below w.heap.size w w' := by
  cases h1 : rackB ps with
  | false =>
    obtain rfl : q = 1 := by rw [← hq, rackCode_1 h1]
    have hc := Lib.hid (vr_implV A n c ps h1 w h hn)
    clear h1 hq h
    go_enter Try.func21, Try.ntmps21
    go_wp2_with fail
    refine hc.out.mono ?_
    rintro e w1 ⟨rfl, hb1⟩
    go_wp2
    go_ret3
    exact ⟨rfl, hb1⟩
  | true =>
    have hc := Lib.hid (vr_implV A n c ps h1 w h hn)
    cases h2 : inR m 0 119 with
    | false =>
      obtain rfl : q = 2 := by rw [← hq, rackCode_2 h1 h2]
      have hc2 := Lib.hid (fun W => col_impl h2 W)
      clear h1 h2 hq h
      go_enter Try.func21, Try.ntmps21
      go_wp2_with fail
      refine hc.out.mono ?_
      rintro e w1 ⟨rfl, hb1⟩
      go_wp2_with fail
      refine (hc2.out _).mono ?_
      rintro e w2 ⟨rfl, rfl⟩
      go_wp2
      go_ret3
      exact ⟨rfl, hb1⟩
    | true =>
      obtain rfl : q = 0 := by rw [← hq, rackCode_0 h1 h2]
      have hc2 := Lib.hid (fun W => col_impl h2 W)
      obtain ⟨h12, hris⟩ := rackB_len h1
      rw [h.1] at h12
      have hs := Lib.hid (fun W (hW : Ints W A n ps) => search8 A n c ps m W hW h12 (rises_lt hris) ((has_low hris).symm.trans hv))
      clear h1 h2 hq hris hv
      go_enter Try.func21, Try.ntmps21
      go_wp2_with fail
      refine hc.out.mono ?_
      rintro e w1 ⟨rfl, hb1⟩
      go_wp2_with fail
      refine (hc2.out _).mono ?_
      rintro e w2 ⟨rfl, rfl⟩
      go_wp2_with fail
      refine (hs.out _ (h.below hb1)).mono ?_
      rintro e w2 ⟨rfl, rfl⟩
      go_wp2
      go_ret3
      exact ⟨rfl, hb1⟩

set_option maxRecDepth 100000 in
set_option maxHeartbeats 1600000 in
theorem next8_impl (A : Option Addr) (n c : Nat) (ps : List Int) (m : Int) (w : World) (h : Ints w A n ps) (hn : n ≤ 1048576) (hx : ∀ x ∈ ps, intGood x) (hm : (Lit.int .i64 m).wf = true) :
    Calls Try.prog 12 #[.slice A n c, .int .i64 m] w fun e w' => e = .returned (.tuple #[.int .i64 (nextR ps m).1, .int .i64 (nextR ps m).2]) ∧ Below w.heap.size w w' := by
  generalize hr : nextR ps m = r
  replace hr := Lib.hid hr.symm
  have hl := Lib.hid h.1
  have hcases := rackCode_cases ps m
  have hcd := Lib.hid (fun (q : Int) (hq : rackCode ps m = q) (v : Bool) (hv : ps.contains m = v) => find8 A n c ps m w h hn hq hv)
  clear hx hm
  rcases hcases with h0 | h0 | h0
  · obtain ⟨hok, hcol⟩ := rackCode_ok h0
    obtain ⟨h12, hris⟩ := rackB_len hok
    rw [hl.out] at h12
    have hlow := lowI8_le m ps
    rw [hl.out] at hlow
    have hnl := next_low (c := m) hris
    cases h4 : ps.contains m with
    | true =>
      rw [h4, if_pos rfl] at hnl
      have hat := Lib.hid (List.getElem?_eq_some_iff.1 (show ps[lowI8 m ps]? = some m by have := has_low (c := m) hris; rw [h4] at this; simpa using this.symm)).1
      have hres : Hid (r = nextO ps[lowI8 m ps + 1]?) := Lib.hid (by rw [hr.out, nextR, if_pos h0, hnl])
      have hc1 := Lib.hid (hcd.out _ h0 _ h4)
      generalize lowI8 m ps = a at *
      have hw1 : IntKind.i64.wrap ((a : Int) + 1) = (a : Int) + 1 := IntWalk.i64_in _ (by omega)
      by_cases hend : a + 1 < n
      · have h1 := h
        obtain ⟨b, off, y, rfl, hb, hy, c0⟩ := int_at (k := a + 1) h hend
        have hfin : Hid (r = (y, 0)) := Lib.hid (by rw [hres.out, hy.out]; rfl)
        have e0 : (((a : Int) + 1) == (n : Int)) = false := beq_eq_false_iff_ne.2 (by omega)
        have e1 : (a + 1 == n) = false := beq_eq_false_iff_ne.2 (by omega)
        clear hnl hok hcol hris hr hcd h0 h4
        go_enter Try.func12, Try.ntmps12
        go_wp2_with fail
        refine hc1.out.mono ?_
        rintro e w1 ⟨rfl, hb1⟩
        have c1 := (hb1.cell (p := ⟨b, off + (a + 1), none⟩) hb).trans c0
        go_wp2
        go_ret2
        exact ⟨ret8_2 hfin.out, hb1⟩
      · have hfin : Hid (r = (0, 3)) := Lib.hid (by rw [hres.out, List.getElem?_eq_none (by rw [hl.out]; omega)]; rfl)
        have e2 := hat
        have e0 : (((a : Int) + 1) == (n : Int)) = true := beq_iff_eq.2 (by have := e2.out; have := hl.out; omega)
        have e1 : (a + 1 == n) = true := beq_iff_eq.2 (by have := e2.out; have := hl.out; omega)
        clear hnl hok hcol hris hr hcd h0 h4
        go_enter Try.func12, Try.ntmps12
        go_wp2_with fail
        refine hc1.out.mono ?_
        rintro e w1 ⟨rfl, hb1⟩
        go_wp2
        go_ret2
        exact ⟨ret8_2 hfin.out, hb1⟩
    | false =>
      rw [h4, if_neg (by decide), Nat.add_zero] at hnl
      have hres : Hid (r = nextO ps[lowI8 m ps]?) := Lib.hid (by rw [hr.out, nextR, if_pos h0, hnl])
      have hc1 := Lib.hid (hcd.out _ h0 _ h4)
      generalize lowI8 m ps = a at *
      by_cases hend : a < n
      · obtain ⟨b, off, y, rfl, hb, hy, c0⟩ := int_at (k := a) h hend
        have hfin : Hid (r = (y, 0)) := Lib.hid (by rw [hres.out, hy.out]; rfl)
        have e0 : ((a : Int) == (n : Int)) = false := beq_eq_false_iff_ne.2 (by omega)
        have e1 : (a == n) = false := beq_eq_false_iff_ne.2 (by omega)
        clear hnl hok hcol hris hr hcd h0 h4
        go_enter Try.func12, Try.ntmps12
        go_wp2_with fail
        refine hc1.out.mono ?_
        rintro e w1 ⟨rfl, hb1⟩
        have c1 := (hb1.cell (p := ⟨b, off + a, none⟩) hb).trans c0
        go_wp2
        go_ret2
        exact ⟨ret8_2 hfin.out, hb1⟩
      · have hfin : Hid (r = (0, 3)) := Lib.hid (by rw [hres.out, List.getElem?_eq_none (by rw [hl.out]; omega)]; rfl)
        obtain rfl : a = n := by omega
        clear hnl hok hcol hris hr hcd h0 h4
        go_enter Try.func12, Try.ntmps12
        go_wp2_with fail
        refine hc1.out.mono ?_
        rintro e w1 ⟨rfl, hb1⟩
        go_wp2
        go_ret2
        exact ⟨ret8_2 hfin.out, hb1⟩
  · have hbad : Hid (r = (0, 1)) := Lib.hid (by rw [hr.out]; simp [nextR, h0])
    have hc1 := Lib.hid (hcd.out _ h0 _ rfl)
    clear h0 hr hcd h
    go_enter Try.func12, Try.ntmps12
    go_wp2_with fail
    refine hc1.out.mono ?_
    rintro e w1 ⟨rfl, hb1⟩
    go_wp2
    go_ret2
    exact ⟨ret8_2 hbad.out, hb1⟩
  · have hbad : Hid (r = (0, 2)) := Lib.hid (by rw [hr.out]; simp [nextR, h0])
    have hc1 := Lib.hid (hcd.out _ h0 _ rfl)
    clear h0 hr hcd h
    go_enter Try.func12, Try.ntmps12
    go_wp2_with fail
    refine hc1.out.mono ?_
    rintro e w1 ⟨rfl, hb1⟩
    go_wp2
    go_ret2
    exact ⟨ret8_2 hbad.out, hb1⟩
end Go.Proofs.Ytlmjoekiflnjgaa
