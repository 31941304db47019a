/- Lines of words: the model's functions that ask for first breaks. -/
import Derived.Test.YtcaojaaooadeaaaLn2
namespace Go.Proofs.Ytcaojaaooadeaaa
open Go.RowKit Go.ChangeShapes Go.WideShapes Go.Deep
set_option linter.unusedVariables false
set_option linter.unusedSimpArgs false

theorem first_len (W : Nat) (ws : List ByteArray) : (firstL W ws).length ≤ ws.length := brk_len W ws _ _
theorem vt9_spec (A : Option Addr) (n c : Nat) (ws : List ByteArray) (wd : Int) (w : World) (h : Strs w A n ws) (hn : n ≤ 1048576) (hg : ∀ x ∈ ws, strGood x) (hw : (Lit.int .i64 wd).wf = true) :
    Calls Try.prog 12 #[.slice A n c, .int .i64 wd] w fun e w' => e = .returned (.bool (okW ws wd)) ∧ Below w.heap.size w w' := by
  generalize h1 : okW ws wd = v
  have hc := Lib.hid (ok9_spec A n c ws wd h1 w h hn hg)
  clear h1 h hg hw
  go_enter Try.func12, Try.ntmps12
  go_wp2_with fail
  refine hc.out.mono ?_
  rintro e w1 ⟨rfl, rfl⟩
  go_wp2
  go_ret
  exact ⟨rfl, Below.refl _ _⟩
theorem fb_specC (A : Option Addr) (n c : Nat) (ws : List ByteArray) (wd : Int) (w : World) (h : Strs w A n ws) (hn : n ≤ 1048576) (hc : n ≤ c) (hg : ∀ x ∈ ws, x.size ≤ maxLen) :
    Calls Try.prog 16 #[.slice A n c, .int .i64 wd] w (IOut (fbR ws wd) w) := by
  generalize hr : fbR ws wd = r
  replace hr := Lib.hid hr.symm
  have hl := Lib.hid h.1
  cases h1 : okW ws wd with
  | false =>
    have hbad : Hid (r = ([], 1)) := Lib.hid (by rw [hr.out, fbR, h1]; rfl)
    have hc1 := Lib.hid (ok9_spec A n c ws wd h1 w h hn hg)
    clear h1 hr h hg
    go_enter Try.func16, Try.ntmps16
    go_wp2_with fail
    refine hc1.out.mono ?_
    rintro e w1 ⟨rfl, rfl⟩
    go_wp2
    go_ret2
    exact IOut.bad hbad.out (Below.refl _ _)
  | true =>
    obtain ⟨n40, w1, w80, hws⟩ := okW_ok h1
    obtain ⟨W, rfl⟩ : ∃ W : Nat, wd = (W : Int) := ⟨wd.toNat, by omega⟩
    rw [hl.out] at n40
    have hgood : Hid (r = (firstL W ws, 0)) := Lib.hid (by rw [hr.out, fbR, h1, Int.toNat_natCast]; rfl)
    have hcode : Hid (r.2 = 0) := Lib.hid (by rw [hgood.out])
    have hc1 := Lib.hid (ok9_spec A n c ws W h1 w h hn hg)
    have hf := Lib.hid (first9_spec A n c ws W (by omega) (by omega) hc (fun x hx => by have := (hws x hx).2.1; omega) w h)
    have hlen := Lib.hid (first_len W ws)
    clear h1 hr h hg hws
    go_enter Try.func16, Try.ntmps16
    go_wp2_with fail
    refine hc1.out.mono ?_
    rintro e w1 ⟨rfl, rfl⟩
    go_wp2_with fail
    refine hf.out.mono ?_
    rintro e w1 ⟨v, rfl, hrow, hb1⟩
    obtain ⟨A', c', rfl, hO⟩ := owns_i8 rfl hrow
    replace hO := Lib.hid hO
    clear hrow
    go_wp2
    go_ret2
    exact ⟨A', _, c', by rw [hcode.out]; rfl, by have := hlen.out; have := hl.out; omega, by rw [hgood.out]; exact hO.out, hb1⟩
theorem fb9_spec (A : Option Addr) (n m : Nat) (ws : List ByteArray) (wd : Int) (w : World) (h : Strs w A n ws) (hn : n ≤ 1048576) (hg : ∀ x ∈ ws, strGood x) (hw : (Lit.int .i64 wd).wf = true) :
    Calls Try.prog 16 #[.slice A n n, .int .i64 wd] w (IOut (fbR ws wd) w) := fb_specC A n n ws wd w h hn (Nat.le_refl _) hg
theorem fl_specC (A : Option Addr) (n c : Nat) (ws : List ByteArray) (wd : Int) (w : World) (h : Strs w A n ws) (hn : n ≤ 1048576) (hc : n ≤ c) (hg : ∀ x ∈ ws, x.size ≤ maxLen) {a b : Int} (hv : flR ws wd = (a, b)) :
    Calls Try.prog 27 #[.slice A n c, .int .i64 wd] w fun e w' => e = .returned (.tuple #[.int .i64 a, .int .i64 b]) ∧ Below w.heap.size w w' := by
  replace hv := Lib.hid hv
  have hl := Lib.hid h.1
  cases h1 : okW ws wd with
  | false =>
    obtain ⟨rfl, rfl⟩ : a = 0 ∧ b = 1 := by have := hv.out; rw [flR, h1] at this; simpa [eq_comm] using this
    have hc1 := Lib.hid (ok9_spec A n c ws wd h1 w h hn hg)
    clear h1 hv h hg
    go_enter Try.func27, Try.ntmps27
    go_wp2_with fail
    refine hc1.out.mono ?_
    rintro e w1 ⟨rfl, rfl⟩
    go_wp2
    go_ret2
    exact ⟨rfl, Below.refl _ _⟩
  | true =>
    obtain ⟨n40, w1, w80, hws⟩ := okW_ok h1
    obtain ⟨W, rfl⟩ : ∃ W : Nat, wd = (W : Int) := ⟨wd.toNat, by omega⟩
    rw [hl.out] at n40
    have hc1 := Lib.hid (ok9_spec A n c ws W h1 w h hn hg)
    by_cases h0 : n = 0
    · obtain ⟨rfl, rfl⟩ : a = 0 ∧ b = 0 := by have := hv.out; rw [flR, if_pos h1, if_pos (by rw [hl.out]; exact h0)] at this; simpa [eq_comm] using this
      subst h0
      clear h1 hv h hg
      go_enter Try.func27, Try.ntmps27
      go_wp2_with fail
      refine hc1.out.mono ?_
      rintro e w1 ⟨rfl, rfl⟩
      go_wp2
      go_ret2
      exact ⟨rfl, Below.refl _ _⟩
    · have hlen := first_len W ws
      rw [hl.out] at hlen
      obtain ⟨q, hq⟩ : ∃ q, (firstL W ws).length = q := ⟨_, rfl⟩
      obtain ⟨rfl, rfl⟩ : a = (q : Int) + 1 ∧ b = 0 := by have := hv.out; rw [flR, if_pos h1, if_neg (by rw [hl.out]; exact h0), Int.toNat_natCast, hq] at this; simpa [eq_comm] using this
      have hf := Lib.hid (first9_spec A n c ws W (by omega) (by omega) hc (fun x hx => by have := (hws x hx).2.1; omega) w h)
      rw [hq] at hlen
      have g0 : ((n : Int) == 0) = false := beq_eq_false_iff_ne.2 (by omega)
      have g1 : (n == 0) = false := beq_eq_false_iff_ne.2 h0
      have hwr : IntKind.i64.wrap ((q : Int) + 1) = (q : Int) + 1 := IntWalk.i64_in _ (by omega)
      replace hq := Lib.hid hq
      replace h0 := Lib.hid h0
      clear h1 hv h hg hws
      go_enter Try.func27, Try.ntmps27
      go_wp2_with fail
      refine hc1.out.mono ?_
      rintro e w1 ⟨rfl, rfl⟩
      go_wp2_with fail
      refine hf.out.mono ?_
      rintro e w1 ⟨v, rfl, hrow, hb1⟩
      rw [hq.out] at hrow
      obtain ⟨A', c', rfl⟩ := owns_form8 hrow
      clear hrow
      go_wp2
      go_ret2
      exact ⟨rfl, hb1⟩
theorem fl9_spec (A : Option Addr) (n m : Nat) (ws : List ByteArray) (wd : Int) (w : World) (h : Strs w A n ws) (hn : n ≤ 1048576) (hg : ∀ x ∈ ws, strGood x) (hw : (Lit.int .i64 wd).wf = true) :
    Calls Try.prog 27 #[.slice A n n, .int .i64 wd] w fun e w' => e = .returned (.tuple #[.int .i64 (flR ws wd).1, .int .i64 (flR ws wd).2]) ∧ Below w.heap.size w w' := fl_specC A n n ws wd w h hn (Nat.le_refl _) hg rfl
theorem enough_no {ws : List ByteArray} {k : Int} {wd : Nat} (h : okW ws wd = false) : enoughB ws k wd = false := by rw [enoughB, h]; rfl
theorem least_go {ws : List ByteArray} {k : Int} {f wd : Nat} (h : enoughB ws k wd = false) : leastW ws k (f + 1) wd = leastW ws k f (wd + 1) := by rw [leastW, h]; rfl
theorem least_yes {ws : List ByteArray} {k : Int} {f wd : Nat} (h : enoughB ws k wd = true) : leastW ws k (f + 1) wd = ((wd : Int), 0) := by rw [leastW, h]; rfl
set_option maxRecDepth 100000 in
set_option maxHeartbeats 3200000 in
theorem lw9_specC (A : Option Addr) (n c : Nat) (ws : List ByteArray) (m : Int) (w : World) (h : Strs w A n ws) (hn : n ≤ 1048576) (hc : n ≤ c) (hg : ∀ x ∈ ws, x.size ≤ maxLen) {a b : Int} (hv : lwR ws m = (a, b)) :
    Calls Try.prog 34 #[.slice A n c, .int .i64 m] w fun e w' => e = .returned (.tuple #[.int .i64 a, .int .i64 b]) ∧ Below w.heap.size w w' := by
  replace hv := Lib.hid hv
  have hl := Lib.hid h.1
  have hg0 := Lib.hid hg
  cases h1 : okW ws 80 with
  | false =>
    obtain ⟨rfl, rfl⟩ : a = 0 ∧ b = 1 := by have := hv.out; rw [lwR, h1] at this; simpa [eq_comm] using this
    have hc1 := Lib.hid (ok9_spec A n c ws 80 h1 w h hn hg)
    clear h1 hv h hg
    go_enter Try.func34, Try.ntmps34
    go_wp2_with fail
    refine hc1.out.mono ?_
    rintro e w1 ⟨rfl, rfl⟩
    go_wp2
    go_ret2
    exact ⟨rfl, Below.refl _ _⟩
  | true =>
    have hc1 := Lib.hid (ok9_spec A n c ws 80 h1 w h hn hg)
    obtain ⟨n40, _, _, hws⟩ := okW_ok h1
    rw [hl.out] at n40
    cases h2 : inR m 1 40 with
    | false =>
      obtain ⟨rfl, rfl⟩ : a = 0 ∧ b = 2 := by have := hv.out; rw [lwR, h1, h2] at this; simpa [eq_comm] using this
      have hc2 := Lib.hid (fun W => in8_spec h2 W)
      clear h1 h2 hv h hg
      go_enter Try.func34, Try.ntmps34
      go_wp2_with fail
      refine hc1.out.mono ?_
      rintro e w1 ⟨rfl, rfl⟩
      go_wp2_with fail
      refine (hc2.out _).mono ?_
      rintro e w1 ⟨rfl, rfl⟩
      go_wp2
      go_ret2
      exact ⟨rfl, Below.refl _ _⟩
    | true =>
      have hc2 := Lib.hid (fun W => in8_spec h2 W)
      have hv2 : Hid (leastW ws m 80 1 = (a, b)) := Lib.hid (by have := hv.out; rw [lwR, if_pos h1, if_pos h2] at this; exact this)
      clear h1 h2 hv hg hws
      go_enter Try.func34, Try.ntmps34
      go_wp2_with fail
      refine hc1.out.mono ?_
      rintro e w1 ⟨rfl, rfl⟩
      go_wp2_with fail
      refine (hc2.out _).mono ?_
      rintro e w1 ⟨rfl, rfl⟩
      clear hc1 hc2
      go_wp2
      go_loopw [6] (fun i wr => ∃ k : Nat, 1 ≤ k ∧ k ≤ 81 ∧ i = .int .i64 (k : Int) ∧ Below w.heap.size w wr ∧ leastW ws m (81 - k) k = (a, b)) (fun i _ => 81 - (intOf i).toNat)
      case atStart => exact ⟨1, by omega, by omega, rfl, Below.refl _ _, hv2.out⟩
      case round =>
        rename World => wr
        obtain ⟨k, hk1, hk, rfl, hbw, he⟩ := hrel
        replace he := Lib.hid he
        have hS := h.below hbw
        by_cases hlt : k ≤ 80
        · obtain ⟨f, hf, hf2⟩ : ∃ f, 81 - k = f + 1 ∧ 81 - (k + 1) = f := ⟨80 - k, by omega, by omega⟩
          rw [hf] at he
          have gk : ((k : Int) ≤ 80) := by omega
          cases h1 : okW ws k with
          | false =>
            have hnx : Hid (leastW ws m (81 - (k + 1)) (k + 1) = (a, b)) := Lib.hid (by rw [hf2, ← least_go (enough_no h1)]; exact he.out)
            have hj := Lib.hid (ok9_spec A n c ws k h1 wr hS hn hg0.out)
            replace hf := Lib.hid hf
            replace hf2 := Lib.hid hf2
            clear h1
            go_wp2_with fail
            refine hj.out.mono ?_
            rintro e w' ⟨rfl, rfl⟩
            go_wp2
            go_roundw
            case rel => exact ⟨k + 1, by omega, by omega, by go_num, hbw, hnx.out⟩
            case measure => simp [intOf]; omega
          | true =>
            have hj := Lib.hid (ok9_spec A n c ws k h1 wr hS hn hg0.out)
            obtain ⟨_, _, _, hws⟩ := okW_ok h1
            have hfi := Lib.hid (first9_spec A n c ws k hlt (by omega) hc (fun x hx => by have := (hws x hx).2.1; omega) wr hS)
            have hq0 := first_len k ws
            obtain ⟨q, hq⟩ : ∃ q, (firstL k ws).length = q := ⟨_, rfl⟩
            rw [hq, hl.out] at hq0
            by_cases hm : (q : Int) < m
            · have hen : enoughB ws m k = true := by rw [enoughB, h1, hq, decide_eq_true hm]; rfl
              obtain ⟨rfl, rfl⟩ : a = (k : Int) ∧ b = 0 := by have := he.out; rw [least_yes hen] at this; simpa [eq_comm] using this
              have gm : decide ((q : Int) < m) = true := decide_eq_true hm
              replace hq := Lib.hid hq
              replace hf := Lib.hid hf
              replace hf2 := Lib.hid hf2
              clear h1 hen hws
              go_wp2_with fail
              refine hj.out.mono ?_
              rintro e w' ⟨rfl, rfl⟩
              go_wp2_with fail
              refine hfi.out.mono ?_
              rintro e w1 ⟨v, rfl, hrow, hb1⟩
              rw [hq.out] at hrow
              obtain ⟨A', c', rfl⟩ := owns_form8 hrow
              clear hrow
              go_wp2
              go_ret2
              exact ⟨rfl, hbw.trans (hb1.mono hbw.size)⟩
            · have hen : enoughB ws m k = false := by rw [enoughB, h1, hq, decide_eq_false hm]; rfl
              have hnx : Hid (leastW ws m (81 - (k + 1)) (k + 1) = (a, b)) := Lib.hid (by rw [hf2, ← least_go hen]; exact he.out)
              have gm : decide ((q : Int) < m) = false := decide_eq_false hm
              replace hq := Lib.hid hq
              replace hf := Lib.hid hf
              replace hf2 := Lib.hid hf2
              clear h1 hen hws
              go_wp2_with fail
              refine hj.out.mono ?_
              rintro e w' ⟨rfl, rfl⟩
              go_wp2_with fail
              refine hfi.out.mono ?_
              rintro e w1 ⟨v, rfl, hrow, hb1⟩
              rw [hq.out] at hrow
              obtain ⟨A', c', rfl⟩ := owns_form8 hrow
              have hbw2 := hbw.trans (hb1.mono hbw.size)
              clear hrow
              go_wp2
              go_roundw
              case rel => exact ⟨k + 1, by omega, by omega, by go_num, hbw2, hnx.out⟩
              case measure => simp [intOf]; omega
        · obtain rfl : k = 81 := by omega
          obtain ⟨rfl, rfl⟩ : a = 0 ∧ b = 5 := by have := he.out; simpa [leastW, eq_comm] using this
          go_wp2
          go_ret2
          exact ⟨rfl, hbw⟩
theorem lw9_spec (A : Option Addr) (n c : Nat) (ws : List ByteArray) (m : Int) (w : World) (h : Strs w A n ws) (hn : n ≤ 1048576) (hg : ∀ x ∈ ws, strGood x) (hw : (Lit.int .i64 m).wf = true) :
    Calls Try.prog 34 #[.slice A n n, .int .i64 m] w fun e w' => e = .returned (.tuple #[.int .i64 (lwR ws m).1, .int .i64 (lwR ws m).2]) ∧ Below w.heap.size w w' := lw9_specC A n n ws m w h hn (Nat.le_refl _) hg rfl
end Go.Proofs.Ytcaojaaooadeaaa
