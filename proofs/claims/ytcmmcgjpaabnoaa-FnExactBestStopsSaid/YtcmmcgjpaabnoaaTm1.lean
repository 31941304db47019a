/- Moves of the carriage: the model's stops, tabs and moves. -/
import Derived.Test.YtcmmcgjpaabnoaaTm0
namespace Go.Proofs.Ytcmmcgjpaabnoaa
open Go.RowKit Go.ChangeShapes Go.WideShapes Go.Deep
set_option linter.unusedVariables false
set_option linter.unusedSimpArgs false

theorem col11 {n : Int} {v : Bool} (h : inR n 0 30 = v) (w : World) :
    Calls Try.prog 64 #[.int .i64 n] w fun e w' => e = .returned (.bool v) ∧ w = w' := by
  have hc := Lib.hid (fun W => in8_spec h W)
  clear h
  go_enter Try.func64, Try.ntmps64
  go_wp2_with fail
  refine (hc.out _).mono ?_
  rintro e w1 ⟨rfl, rfl⟩
  go_wp2
  go_ret
  exact ⟨rfl, rfl⟩
theorem ok11 (A : Option Addr) (n c : Nat) (ps : List Int) {v : Bool} (hv : stB ps = v) (w : World) (h : Ints w A n ps) (hn : n ≤ 1048576) :
    Calls Try.prog 35 #[.slice A n c] w fun e w' => e = .returned (.bool v) ∧ Below w.heap.size w w' := by
  have hl := h.1
  have hres : v = (decide (n ≤ 6) && risesB 30 1 ps) := by rw [← hv, stB, hl]
  clear hv hl
  by_cases h6 : n ≤ 6
  · have hr : Hid (risesB 30 1 ps = v) := Lib.hid (by rw [hres, decide_eq_true h6, Bool.true_and])
    have hc := Lib.hid (rises_spec A n c 1 30 ps hr.out w h hn)
    have g1 : decide ((n : Int) ≤ 6) = true := decide_eq_true (by omega)
    have g2 : decide (n ≤ 6) = true := decide_eq_true h6
    replace h6 := Lib.hid h6
    clear hres
    go_enter Try.func35, Try.ntmps35
    go_wp2_with fail
    refine hc.out.mono ?_
    rintro e w1 ⟨rfl, hb1⟩
    go_wp2
    go_ret
    exact ⟨rfl, hb1⟩
  · have hr : Hid (v = false) := Lib.hid (by rw [hres, decide_eq_false h6, Bool.false_and])
    have g1 : decide ((n : Int) ≤ 6) = false := decide_eq_false (by omega)
    have g2 : decide (n ≤ 6) = false := decide_eq_false h6
    replace h6 := Lib.hid h6
    clear hres h
    go_enter Try.func35, Try.ntmps35
    go_wp2
    go_ret
    exact ⟨ret_bo hr.out.symm, Below.refl _ _⟩
theorem vs11_spec (A : Option Addr) (n c : Nat) (ps : List Int) (w : World) (h : Ints w A n ps) (hn : n ≤ 1048576) (hx : ∀ x ∈ ps, intGood x) :
    Calls Try.prog 11 #[.slice A n c] w fun e w' => e = .returned (.bool (stB ps)) ∧ Below w.heap.size w w' := by
  have hc := Lib.hid (ok11 A n c ps rfl w h hn)
  go_enter Try.func11, Try.ntmps11
  go_wp2_with fail
  refine hc.out.mono ?_
  rintro e w1 ⟨rfl, hb1⟩
  go_wp2
  go_ret
  exact ⟨rfl, hb1⟩
set_option maxHeartbeats 1600000 in
theorem tab11 (A : Option Addr) (n c : Nat) (ps : List Int) (a : Int) {v : Int} (hv : tabP ps a = v) (w : World) (h : Ints w A n ps) (hn : n ≤ 1048576) :
    Calls Try.prog 79 #[.slice A n c, .int .i64 a] w fun e w' => e = .returned (.int .i64 v) ∧ w = w' := by
  have hl := Lib.hid h.1
  have hv0 := Lib.hid hv
  clear hv
  go_enter Try.func79, Try.ntmps79
  go_wp2
  go_loopw [5] (fun i wr => ∃ k : Nat, k ≤ n ∧ i = .int .i64 k ∧ w = wr ∧ tabP ps a = tabP (ps.drop k) a) (fun i _ => n - (intOf i).toNat)
  case atStart => exact ⟨0, by omega, rfl, rfl, rfl⟩
  case round =>
    obtain ⟨k, hk, rfl, rfl, he⟩ := hrel
    replace he := Lib.hid he
    by_cases hlt : k < n
    · obtain ⟨b, off, x, rfl, hb, hx, c0⟩ := int_at h hlt
      have hst := Lib.hid (tabP_drop hx.out a)
      have hk0 : (0 : Int) ≤ (k : Int) := Int.natCast_nonneg _
      have hk1 : (k : Int) < (n : Int) := by omega
      by_cases h1 : a < x
      · have hr : Hid (x = v) := Lib.hid (by rw [← hv0.out, he.out, hst.out, if_pos h1])
        go_wp2
        go_ret
        exact ⟨ret_i64 hr.out, rfl⟩
      · have hnx : Hid (tabP ps a = tabP (ps.drop (k + 1)) a) := Lib.hid (by rw [he.out, hst.out, if_neg h1])
        go_wp2
        go_roundw
        case rel => exact ⟨k + 1, by omega, by go_num, (by first | trivial | rfl), hnx.out⟩
        case measure => simp [intOf]; omega
    · obtain rfl : k = n := by omega
      have hr : Hid ((-1 : Int) = v) := Lib.hid (by rw [← hv0.out, he.out, List.drop_of_length_le (by rw [hl.out]; exact Nat.le_refl _)]; rfl)
      have g1 : ¬ (k : Int) < (k : Int) := by omega
      go_wp2
      go_ret
      exact ⟨ret_i64 hr.out, rfl⟩
set_option maxHeartbeats 1600000 in
theorem next11 (A : Option Addr) (n c : Nat) (ps : List Int) (a : Int) (m : UInt8) {v : Int} (hv : nextP ps a m = v) (ha : 0 ≤ a ∧ a ≤ 1000) (w : World) (h : Ints w A n ps) (hn : n ≤ 1048576) :
    Calls Try.prog 65 #[.slice A n c, .int .i64 a, .int .u8 (m.toNat : Int)] w fun e w' => e = .returned (.int .i64 v) ∧ w = w' := by
  have hraw : ∀ {y}, rawP ps a m = y → v = if inR y 0 30 = true then y else -1 := fun {y} e => by rw [← hv, nextP, e]
  have main : ∀ y, rawP ps a m = y → Hid (∀ W, Calls Try.prog 64 #[.int .i64 y] W fun e w' => e = .returned (.bool (inR y 0 30)) ∧ W = w') := fun y _ => Lib.hid (fun W => col11 rfl W)
  obtain ⟨y, hy⟩ : ∃ y, rawP ps a m = y := ⟨_, rfl⟩
  have hvv := Lib.hid (hraw hy)
  have hcl := main y hy
  cases hin : inR y 0 30 with
  | true =>
    have hr : Hid (y = v) := Lib.hid (by rw [hvv.out, hin]; rfl)
    rw [hin] at hcl
    clear hin hvv hv hraw main
    unfold rawP at hy
    by_cases h62 : m.toNat = 62
    · rw [if_pos h62] at hy
      have g1 : ((m.toNat : Int) == 62) = true := beq_iff_eq.2 (by omega)
      have g2 : (m.toNat == 62) = true := beq_iff_eq.2 h62
      have hw1 : IntKind.i64.wrap (a + 1) = y := by rw [IntWalk.i64_in _ (by omega)]; exact hy
      replace h62 := Lib.hid h62
      replace hy := Lib.hid hy
      go_enter Try.func65, Try.ntmps65
      go_wp2_with fail
      refine (hcl.out _).mono ?_
      rintro e w1 ⟨rfl, rfl⟩
      go_wp2
      go_ret
      exact ⟨ret_i64 hr.out, rfl⟩
    · rw [if_neg h62] at hy
      have g1 : ((m.toNat : Int) == 62) = false := beq_eq_false_iff_ne.2 (by omega)
      have g2 : (m.toNat == 62) = false := beq_eq_false_iff_ne.2 h62
      replace h62 := Lib.hid h62
      by_cases h60 : m.toNat = 60
      · rw [if_pos h60] at hy
        have g3 : ((m.toNat : Int) == 60) = true := beq_iff_eq.2 (by omega)
        have g4 : (m.toNat == 60) = true := beq_iff_eq.2 h60
        have hw1 : IntKind.i64.wrap (a - 1) = y := by rw [IntWalk.i64_in _ (by omega)]; exact hy
        replace h60 := Lib.hid h60
        replace hy := Lib.hid hy
        go_enter Try.func65, Try.ntmps65
        go_wp2_with fail
        refine (hcl.out _).mono ?_
        rintro e w1 ⟨rfl, rfl⟩
        go_wp2
        go_ret
        exact ⟨ret_i64 hr.out, rfl⟩
      · rw [if_neg h60] at hy
        have g3 : ((m.toNat : Int) == 60) = false := beq_eq_false_iff_ne.2 (by omega)
        have g4 : (m.toNat == 60) = false := beq_eq_false_iff_ne.2 h60
        replace h60 := Lib.hid h60
        by_cases h35 : m.toNat = 35
        · rw [if_pos h35] at hy
          have g5 : ((m.toNat : Int) == 35) = true := beq_iff_eq.2 (by omega)
          have g6 : (m.toNat == 35) = true := beq_iff_eq.2 h35
          have htb := Lib.hid (tab11 A n c ps a hy w h hn)
          replace h35 := Lib.hid h35
          replace hy := Lib.hid hy
          go_enter Try.func65, Try.ntmps65
          go_wp2_with fail
          refine htb.out.mono ?_
          rintro e w1 ⟨rfl, rfl⟩
          go_wp2_with fail
          refine (hcl.out _).mono ?_
          rintro e w1 ⟨rfl, rfl⟩
          go_wp2
          go_ret
          exact ⟨ret_i64 hr.out, rfl⟩
        · rw [if_neg h35] at hy
          have g5 : ((m.toNat : Int) == 35) = false := beq_eq_false_iff_ne.2 (by omega)
          have g6 : (m.toNat == 35) = false := beq_eq_false_iff_ne.2 h35
          replace h35 := Lib.hid h35
          subst hy
          go_enter Try.func65, Try.ntmps65
          go_wp2_with fail
          refine (hcl.out _).mono ?_
          rintro e w1 ⟨rfl, rfl⟩
          go_wp2
          go_ret
          exact ⟨ret_i64 hr.out, rfl⟩
  | false =>
    have hr : Hid ((-1 : Int) = v) := Lib.hid (by rw [hvv.out, hin]; rfl)
    rw [hin] at hcl
    clear hin hvv hv hraw main
    unfold rawP at hy
    by_cases h62 : m.toNat = 62
    · rw [if_pos h62] at hy
      have g1 : ((m.toNat : Int) == 62) = true := beq_iff_eq.2 (by omega)
      have g2 : (m.toNat == 62) = true := beq_iff_eq.2 h62
      have hw1 : IntKind.i64.wrap (a + 1) = y := by rw [IntWalk.i64_in _ (by omega)]; exact hy
      replace h62 := Lib.hid h62
      replace hy := Lib.hid hy
      go_enter Try.func65, Try.ntmps65
      go_wp2_with fail
      refine (hcl.out _).mono ?_
      rintro e w1 ⟨rfl, rfl⟩
      go_wp2
      go_ret
      exact ⟨ret_i64 hr.out, rfl⟩
    · rw [if_neg h62] at hy
      have g1 : ((m.toNat : Int) == 62) = false := beq_eq_false_iff_ne.2 (by omega)
      have g2 : (m.toNat == 62) = false := beq_eq_false_iff_ne.2 h62
      replace h62 := Lib.hid h62
      by_cases h60 : m.toNat = 60
      · rw [if_pos h60] at hy
        have g3 : ((m.toNat : Int) == 60) = true := beq_iff_eq.2 (by omega)
        have g4 : (m.toNat == 60) = true := beq_iff_eq.2 h60
        have hw1 : IntKind.i64.wrap (a - 1) = y := by rw [IntWalk.i64_in _ (by omega)]; exact hy
        replace h60 := Lib.hid h60
        replace hy := Lib.hid hy
        go_enter Try.func65, Try.ntmps65
        go_wp2_with fail
        refine (hcl.out _).mono ?_
        rintro e w1 ⟨rfl, rfl⟩
        go_wp2
        go_ret
        exact ⟨ret_i64 hr.out, rfl⟩
      · rw [if_neg h60] at hy
        have g3 : ((m.toNat : Int) == 60) = false := beq_eq_false_iff_ne.2 (by omega)
        have g4 : (m.toNat == 60) = false := beq_eq_false_iff_ne.2 h60
        replace h60 := Lib.hid h60
        by_cases h35 : m.toNat = 35
        · rw [if_pos h35] at hy
          have g5 : ((m.toNat : Int) == 35) = true := beq_iff_eq.2 (by omega)
          have g6 : (m.toNat == 35) = true := beq_iff_eq.2 h35
          have htb := Lib.hid (tab11 A n c ps a hy w h hn)
          replace h35 := Lib.hid h35
          replace hy := Lib.hid hy
          go_enter Try.func65, Try.ntmps65
          go_wp2_with fail
          refine htb.out.mono ?_
          rintro e w1 ⟨rfl, rfl⟩
          go_wp2_with fail
          refine (hcl.out _).mono ?_
          rintro e w1 ⟨rfl, rfl⟩
          go_wp2
          go_ret
          exact ⟨ret_i64 hr.out, rfl⟩
        · rw [if_neg h35] at hy
          have g5 : ((m.toNat : Int) == 35) = false := beq_eq_false_iff_ne.2 (by omega)
          have g6 : (m.toNat == 35) = false := beq_eq_false_iff_ne.2 h35
          replace h35 := Lib.hid h35
          subst hy
          go_enter Try.func65, Try.ntmps65
          go_wp2_with fail
          refine (hcl.out _).mono ?_
          rintro e w1 ⟨rfl, rfl⟩
          go_wp2
          go_ret
          exact ⟨ret_i64 hr.out, rfl⟩
end Go.Proofs.Ytcmmcgjpaabnoaa
