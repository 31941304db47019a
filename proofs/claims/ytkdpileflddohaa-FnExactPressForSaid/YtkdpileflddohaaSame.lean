/- Are two lists of presses equal: the program (by slices.Equal) and the model answer the same. -/
import Derived.Test.YtkdpileflddohaaPress0
import Derived.Laws.StructEq
import Derived.Deep.QuietTactic
import Derived.BigQuiet
namespace Go.Proofs.Ytkdpileflddohaa
open Go.RowKit
set_option linter.unusedVariables false
set_option linter.unusedSimpArgs false

theorem neq_press (x y : PressD) (w : World) : (binOp .neq 37 (.agg #[.int .i64 x.key, .bool x.shift]) (.agg #[.int .i64 y.key, .bool y.shift])).run Try.prog w = .ok (.bool (!x.eqB y)) w := by
  have hS : Try.prog.underlying 37 = some (.struct (Try.prog.fieldsOf 37)) := by kernel_rfl
  have hp : Try.prog.stoodInHeld 37 = false := by kernel_rfl
  rw [run_neq_struct, show (10000 : Nat) = 9999 + 1 from rfl, run_equalIn_agg w 9999 37 _ _ hS hp]
  simp only [Program.fieldsOf, Try.underlying37]
  have u2 := Try.underlying2
  have u4 := Try.underlying4
  obtain ⟨a, s⟩ := x
  obtain ⟨b, t⟩ := y
  go_simp
  by_cases h1 : a = b <;> by_cases h2 : s = t <;> simp [h1, h2, PressD.eqB]

set_option maxHeartbeats 800000 in
theorem same_spec (A B : Option Addr) (n m c d : Nat) (ps qs : List PressD) (w : World) (hA : Presses w A n ps) (hB : Presses w B m qs) (hn : n ≤ maxLen) (hm : m ≤ maxLen) :
    Calls Try.prog 44 #[.slice A n c, .slice B m d] w fun e w' => e = .returned (.bool (eqPs ps qs)) ∧ Below w.heap.size w w' := by
  unfold maxLen at hn hm
  by_cases hl : n = m
  · subst hl
    go_enter Try.func44, Try.ntmps44
    go_wp2
    go_loopw [5] (fun i wr => ∃ k : Nat, k ≤ n ∧ i = .int .i64 k ∧ Below w.heap.size w wr ∧ eqPs ps qs = eqPs (ps.drop k) (qs.drop k)) (fun i _ => n - (intOf i).toNat)
    case atStart => exact ⟨0, by omega, rfl, Below.refl _ _, rfl⟩
    case round =>
      obtain ⟨k, hk, rfl, hbw, he⟩ := hrel
      have he := Lib.hid he
      by_cases hlt : k < n
      · obtain ⟨b, off, x, rfl, hb, hx, c0, c1⟩ := presses_at (hA.below hbw) hlt
        obtain ⟨b', off', y, rfl, hb', hy, d0, d1⟩ := presses_at (hB.below hbw) hlt
        have hk0 : (0 : Int) ≤ (k : Int) := Int.natCast_nonneg _
        have hk1 : (k : Int) < (n : Int) := by omega
        by_cases hq : x.eqB y = true
        · have hnext := Lib.hid (eqPs_step hx.out hy.out hq)
          have hneq : ∀ W, (binOp .neq 37 (.agg #[.int .i64 x.key, .bool x.shift]) (.agg #[.int .i64 y.key, .bool y.shift])).run Try.prog W = .ok (.bool false) W := fun W => by rw [neq_press, hq]; rfl
          clear hq
          go_wp2_with fail
          go_quiet (fail)
          go_wp2
          go_roundw
          case rel => exact ⟨k + 1, by omega, by go_num, below_drewN hbw _, he.out.trans hnext.out⟩
          case measure => simp [intOf]; omega
        · have hq' : x.eqB y = false := by simpa using hq
          have hres := Lib.hid (eqPs_stop hx.out hy.out hq')
          have hneq : ∀ W, (binOp .neq 37 (.agg #[.int .i64 x.key, .bool x.shift]) (.agg #[.int .i64 y.key, .bool y.shift])).run Try.prog W = .ok (.bool true) W := fun W => by rw [neq_press, hq']; rfl
          clear hq hq'
          go_wp2_with fail
          go_quiet (fail)
          go_wp2
          go_ret
          exact ⟨ret_b (hres.out ▸ he.out.symm), below_drewN hbw _⟩
      · obtain rfl : k = n := by omega
        have hres := Lib.hid (eqPs_end hA.1 hB.1)
        go_wp2
        go_ret
        exact ⟨ret_b (hres.out ▸ he.out.symm), hbw⟩
  · have hl' : ((n : Int) == (m : Int)) = false := beq_eq_false_iff_ne.2 (by omega)
    have hres := Lib.hid (eqPs_len (ps := ps) (qs := qs) (by rw [hA.1, hB.1]; exact hl))
    clear hl
    go_enter Try.func44, Try.ntmps44
    go_wp2
    go_ret
    exact ⟨ret_b hres.out.symm, Below.refl _ _⟩

set_option maxHeartbeats 800000 in
theorem equal_presses (A B : Option Addr) (n m c d : Nat) (ps qs : List PressD) (w : World) (hA : Presses w A n ps) (hB : Presses w B m qs) (hn : n ≤ maxLen) (hm : m ≤ maxLen) :
    Calls Try.prog 90 #[.slice A n c, .slice B m d] w fun e w' => e = .returned (.bool (eqPs ps qs)) ∧ Below w.heap.size w w' := by
  unfold maxLen at hn hm
  by_cases hl : n = m
  · subst hl
    go_enter Try.func90, Try.ntmps90
    go_wp2
    go_loopw [13] (fun i wr => ∃ k : Nat, k ≤ n ∧ i = .int .i64 k ∧ Below w.heap.size w wr ∧ eqPs ps qs = eqPs (ps.drop k) (qs.drop k)) (fun i _ => n - (intOf i).toNat)
    case atStart => exact ⟨0, by omega, rfl, Below.refl _ _, rfl⟩
    case round =>
      obtain ⟨k, hk, rfl, hbw, he⟩ := hrel
      have he := Lib.hid he
      by_cases hlt : k < n
      · obtain ⟨b, off, x, rfl, hb, hx, c0, c1⟩ := presses_at (hA.below hbw) hlt
        obtain ⟨b', off', y, rfl, hb', hy, d0, d1⟩ := presses_at (hB.below hbw) hlt
        have hk0 : (0 : Int) ≤ (k : Int) := Int.natCast_nonneg _
        have hk1 : (k : Int) < (n : Int) := by omega
        by_cases hq : x.eqB y = true
        · have hnext := Lib.hid (eqPs_step hx.out hy.out hq)
          have hneq : ∀ W, (binOp .neq 37 (.agg #[.int .i64 x.key, .bool x.shift]) (.agg #[.int .i64 y.key, .bool y.shift])).run Try.prog W = .ok (.bool false) W := fun W => by rw [neq_press, hq]; rfl
          clear hq
          go_wp2_with fail
          go_quiet (fail)
          go_wp2
          go_roundw
          case rel => exact ⟨k + 1, by omega, by go_num, below_drewN hbw _, he.out.trans hnext.out⟩
          case measure => simp [intOf]; omega
        · have hq' : x.eqB y = false := by simpa using hq
          have hres := Lib.hid (eqPs_stop hx.out hy.out hq')
          have hneq : ∀ W, (binOp .neq 37 (.agg #[.int .i64 x.key, .bool x.shift]) (.agg #[.int .i64 y.key, .bool y.shift])).run Try.prog W = .ok (.bool true) W := fun W => by rw [neq_press, hq']; rfl
          clear hq hq'
          go_wp2_with fail
          go_quiet (fail)
          go_wp2
          go_ret
          exact ⟨ret_b (hres.out ▸ he.out.symm), below_drewN hbw _⟩
      · obtain rfl : k = n := by omega
        have hres := Lib.hid (eqPs_end hA.1 hB.1)
        go_wp2
        go_ret
        exact ⟨ret_b (hres.out ▸ he.out.symm), hbw⟩
  · have hl' : ((n : Int) == (m : Int)) = false := beq_eq_false_iff_ne.2 (by omega)
    have hres := Lib.hid (eqPs_len (ps := ps) (qs := qs) (by rw [hA.1, hB.1]; exact hl))
    clear hl
    go_enter Try.func90, Try.ntmps90
    go_wp2
    go_ret
    exact ⟨ret_b hres.out.symm, Below.refl _ _⟩

theorem same_impl (A B : Option Addr) (n m c d : Nat) (ps qs : List PressD) (w : World) (hA : Presses w A n ps) (hB : Presses w B m qs) (hn : n ≤ maxLen) (hm : m ≤ maxLen) :
    Calls Try.prog 46 #[.slice A n c, .slice B m d] w fun e w' => e = .returned (.bool (eqPs ps qs)) ∧ Below w.heap.size w w' := by
  go_enter Try.func46, Try.ntmps46
  go_wp2_with (go_at_call 90; refine (equal_presses A B n m c d ps qs _ hA hB hn hm).mono ?_; rintro e w' ⟨rfl, hb⟩)
  go_ret
  exact ⟨rfl, hb⟩
end Go.Proofs.Ytkdpileflddohaa
