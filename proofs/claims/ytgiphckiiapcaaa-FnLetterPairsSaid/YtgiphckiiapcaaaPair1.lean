/- Letters of a table of pairs: the index of a byte, and which texts are letters; the model's functions and the program's. -/
import Derived.Test.YtgiphckiiapcaaaPair0
import Derived.Test.YtgiphckiiapcaaaTxtB
import Derived.Test.YtgiphckiiapcaaaShIdx
namespace Go.Proofs.Ytgiphckiiapcaaa
open Go.RowKit
set_option linter.unusedVariables false
set_option linter.unusedSimpArgs false

theorem min_spec (a b : Int) (w : World) : Calls Try.prog 59 #[.int .i64 a, .int .i64 b] w fun e w' => e = .returned (.int .i64 (min a b)) ∧ w = w' := by
  by_cases h : a < b
  · have hm : Hid (min a b = a) := Lib.hid (by omega)
    have hd : decide (a < b) = true := decide_eq_true h
    go_enter Try.func59, Try.ntmps59
    go_wp2
    go_ret
    exact ⟨by rw [hm.out]; rfl, rfl⟩
  · have hm : Hid (min a b = b) := Lib.hid (by omega)
    have hd : decide (a < b) = false := decide_eq_false h
    go_enter Try.func59, Try.ntmps59
    go_wp2
    go_ret
    exact ⟨by rw [hm.out]; rfl, rfl⟩
theorem u8_eq {a b : UInt8} (h : a = b) : ((a.toNat : Int) == (b.toNat : Int)) = true ∧ (a.toNat == b.toNat) = true := by subst h; simp
theorem u8_ne {a b : UInt8} (h : a ≠ b) : ((a.toNat : Int) == (b.toNat : Int)) = false ∧ (a.toNat == b.toNat) = false := by
  have : a.toNat ≠ b.toNat := fun hh => h (UInt8.toNat_inj.1 hh)
  exact ⟨beq_eq_false_iff_ne.2 (by omega), beq_eq_false_iff_ne.2 this⟩
theorem idx_impl8 (s : ByteArray) (c : UInt8) (w : World) :
    Calls Try.prog 62 #[.string s, .int .u8 (c.toNat : Int)] w fun e w' => e = .returned (.int .i64 (Lib.indexByte s.data.toList c)) ∧ w = w' := by
  refine (Try.strings_IndexByte s (c.toNat : Int) w).mono fun e w' h => ?_
  obtain ⟨rfl, rfl⟩ := h
  refine ⟨?_, rfl⟩
  rw [Int.toNat_natCast]
  congr 3
  exact UInt8.ofNat_toNat

theorem twice_impl (s : ByteArray) {v : Bool} (hv : distB s.data.toList = v) (w : World) (hs : s.size ≤ 1048576) :
    Calls Try.prog 61 #[.string s] w fun e w' => e = .returned (.bool (!v)) ∧ w = w' := by
  replace hv := Lib.hid hv
  go_enter Try.func61, Try.ntmps61
  go_wp2
  go_loopw [6] (fun i wr => ∃ k : Nat, k ≤ s.size ∧ i = .int .i64 k ∧ w = wr ∧ ∀ j : Nat, j < k → dupAt s.data.toList j = false) (fun i _ => s.size - (intOf i).toNat)
  case atStart => exact ⟨0, by omega, rfl, rfl, fun j hj => absurd hj (by omega)⟩
  case round =>
    obtain ⟨k, hk, rfl, rfl, hall⟩ := hrel
    replace hall := Lib.hid hall
    by_cases hlt : k < s.size
    · have hby := Lib.hid (byte_of hlt)
      have hcall := Lib.hid (idx_impl8 s (s[k]'hlt) w)
      cases hd : dupAt s.data.toList k with
      | true =>
        have hr : Hid (v = false) := Lib.hid (by rw [← hv.out, distB_no (i := k) hlt hd])
        have hne : Lib.indexByte s.data.toList (s[k]'hlt) ≠ (k : Int) := fun h => by
          rw [(dupAt_idx hby.out).2 h] at hd
          cases hd
        generalize Lib.indexByte s.data.toList (s[k]'hlt) = X at *
        have e1 : (X == (k : Int)) = false := beq_eq_false_iff_ne.2 hne
        clear hd hne
        go_wp2_with fail
        refine (hcall.out).mono ?_
        rintro e w1 ⟨rfl, rfl⟩
        go_wp2
        go_ret
        exact ⟨by rw [hr.out]; rfl, rfl⟩
      | false =>
        have heq : Lib.indexByte s.data.toList (s[k]'hlt) = (k : Int) := (dupAt_idx hby.out).1 hd
        rw [heq] at hcall
        have hnext : Hid (∀ j : Nat, j < k + 1 → dupAt s.data.toList j = false) := Lib.hid fun j hj => by
          rcases Nat.lt_or_ge j k with h' | h'
          · exact hall.out j h'
          · obtain rfl : j = k := by omega
            exact hd
        clear hd heq
        go_wp2_with fail
        refine (hcall.out).mono ?_
        rintro e w1 ⟨rfl, rfl⟩
        go_wp2
        go_roundw
        case rel => exact ⟨k + 1, by omega, by go_num, by trivial, hnext.out⟩
        case measure => simp [intOf]; omega
    · have hr : Hid (v = true) := Lib.hid (by rw [← hv.out, distB_yes fun i hi => hall.out i (by have h9 : i < s.size := hi; omega)])
      go_wp2
      go_ret
      exact ⟨by rw [hr.out]; rfl, rfl⟩

theorem alpha_impl (s : ByteArray) {v : Bool} (hv : alphaB s (bytesIn 32 126 s) = v) (w : World) (hs : s.size ≤ 1048576) :
    Calls Try.prog 42 #[.string s] w fun e w' => e = .returned (.bool v) ∧ w = w' := by
  by_cases h2 : 2 ≤ s.size
  · have g1 : decide ((2 : Int) ≤ (s.size : Int)) = true := decide_eq_true (by omega)
    have g1' : decide (2 ≤ s.size) = true := decide_eq_true h2
    cases h3 : (decide ((s.size : Int) ≤ 7) && bytesIn 32 126 s) with
    | false =>
      have hr : Hid (v = false) := Lib.hid (by rw [← hv, alphaB, h3]; simp)
      have hb := Lib.hid (hasBytes_any s 32 126 7 false h3 w (by unfold maxLen; omega))
      clear h3 hv h2
      go_enter Try.func42, Try.ntmps42
      go_wp2_with fail
      refine (hb.out).mono ?_
      rintro e w1 ⟨rfl, rfl⟩
      go_wp2
      go_ret
      exact ⟨by rw [hr.out]; rfl, rfl⟩
    | true =>
      have hr : Hid (distB s.data.toList = v) := Lib.hid (by rw [← hv, alphaB, h3, decide_eq_true h2]; simp)
      have hb := Lib.hid (hasBytes_any s 32 126 7 true h3 w (by unfold maxLen; omega))
      have ht := Lib.hid (twice_impl s hr.out w hs)
      clear h3 hv h2
      go_enter Try.func42, Try.ntmps42
      go_wp2_with fail
      refine (hb.out).mono ?_
      rintro e w1 ⟨rfl, rfl⟩
      go_wp2_with fail
      refine (ht.out).mono ?_
      rintro e w1 ⟨rfl, rfl⟩
      go_wp2
      go_ret
      exact ⟨by cases v <;> rfl, rfl⟩
  · have g1 : decide ((2 : Int) ≤ (s.size : Int)) = false := decide_eq_false (by omega)
    have g1' : decide (2 ≤ s.size) = false := decide_eq_false h2
    have hr : Hid (v = false) := Lib.hid (by rw [← hv, alphaB, decide_eq_false h2]; simp)
    clear hv
    go_enter Try.func42, Try.ntmps42
    go_wp2
    go_ret
    exact ⟨by rw [hr.out]; rfl, rfl⟩
end Go.Proofs.Ytgiphckiiapcaaa
