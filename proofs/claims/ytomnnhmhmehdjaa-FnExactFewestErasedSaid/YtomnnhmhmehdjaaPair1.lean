/- Letters of a table of pairs: the index of a byte, and which texts are letters; the model's functions and the program's. -/
import Derived.Test.YtomnnhmhmehdjaaPair0
import Derived.Test.YtomnnhmhmehdjaaTxtB
import Derived.Test.YtomnnhmhmehdjaaShIdx
namespace Go.Proofs.Ytomnnhmhmehdjaa
open Go.RowKit
set_option linter.unusedVariables false
set_option linter.unusedSimpArgs false

theorem u8_eq {a b : UInt8} (h : a = b) : ((a.toNat : Int) == (b.toNat : Int)) = true ∧ (a.toNat == b.toNat) = true := by subst h; simp
theorem u8_ne {a b : UInt8} (h : a ≠ b) : ((a.toNat : Int) == (b.toNat : Int)) = false ∧ (a.toNat == b.toNat) = false := by
  have : a.toNat ≠ b.toNat := fun hh => h (UInt8.toNat_inj.1 hh)
  exact ⟨beq_eq_false_iff_ne.2 (by omega), beq_eq_false_iff_ne.2 this⟩
theorem idx_impl8 (s : ByteArray) (c : UInt8) (w : World) :
    Calls Try.prog 106 #[.string s, .int .u8 (c.toNat : Int)] w fun e w' => e = .returned (.int .i64 (Lib.indexByte s.data.toList c)) ∧ w = w' := by
  refine (Try.strings_IndexByte s (c.toNat : Int) w).mono fun e w' h => ?_
  obtain ⟨rfl, rfl⟩ := h
  refine ⟨?_, rfl⟩
  rw [Int.toNat_natCast]
  congr 3
  exact UInt8.ofNat_toNat

theorem twice_impl (s : ByteArray) {v : Bool} (hv : distB s.data.toList = v) (w : World) (hs : s.size ≤ 1048576) :
    Calls Try.prog 101 #[.string s] w fun e w' => e = .returned (.bool (!v)) ∧ w = w' := by
  replace hv := Lib.hid hv
  go_enter Try.func101, Try.ntmps101
  go_wp2
  go_loopw [6] (fun i wr => ∃ k : Nat, k ≤ s.size ∧ i = .int .i64 k ∧ w = wr ∧ ∀ j : Nat, j < k → dupAt s.data.toList j = false) (fun i _ => s.size - (intOf i).toNat)
  case atStart => exact ⟨0, by omega, rfl, rfl, fun j hj => absurd hj (by omega)⟩
  case round =>
    obtain ⟨k, hk, rfl, rfl, hall⟩ := hrel
    replace hall := Lib.hid hall
    by_cases hlt : k < s.size
    · have hby := Lib.hid (byte_of hlt)
      have hcall := Lib.hid (idx_impl8 s (s[k]'hlt) w)
      cases hd : dupAt s.data.toList k with
      | true =>
        have hr : Hid (v = false) := Lib.hid (by rw [← hv.out, distB_no (i := k) hlt hd])
        have hne : Lib.indexByte s.data.toList (s[k]'hlt) ≠ (k : Int) := fun h => by
          rw [(dupAt_idx hby.out).2 h] at hd
          cases hd
        generalize Lib.indexByte s.data.toList (s[k]'hlt) = X at *
        have e1 : (X == (k : Int)) = false := beq_eq_false_iff_ne.2 hne
        clear hd hne
        go_wp2_with fail
        refine (hcall.out).mono ?_
        rintro e w1 ⟨rfl, rfl⟩
        go_wp2
        go_ret
        exact ⟨by rw [hr.out]; rfl, rfl⟩
      | false =>
        have heq : Lib.indexByte s.data.toList (s[k]'hlt) = (k : Int) := (dupAt_idx hby.out).1 hd
        rw [heq] at hcall
        have hnext : Hid (∀ j : Nat, j < k + 1 → dupAt s.data.toList j = false) := Lib.hid fun j hj => by
          rcases Nat.lt_or_ge j k with h' | h'
          · exact hall.out j h'
          · obtain rfl : j = k := by omega
            exact hd
        clear hd heq
        go_wp2_with fail
        refine (hcall.out).mono ?_
        rintro e w1 ⟨rfl, rfl⟩
        go_wp2
        go_roundw
        case rel => exact ⟨k + 1, by omega, by go_num, by trivial, hnext.out⟩
        case measure => simp [intOf]; omega
    · have hr : Hid (v = true) := Lib.hid (by rw [← hv.out, distB_yes fun i hi => hall.out i (by have h9 : i < s.size := hi; omega)])
      go_wp2
      go_ret
      exact ⟨by rw [hr.out]; rfl, rfl⟩

end Go.Proofs.Ytomnnhmhmehdjaa
