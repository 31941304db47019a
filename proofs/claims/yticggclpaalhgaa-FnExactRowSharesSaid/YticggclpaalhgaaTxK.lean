/- A text that keys can be asked for: whether it is one (for seats without keyboards). -/
import Derived.Test.YticggclpaalhgaaLet0
namespace Go.Proofs.Yticggclpaalhgaa
open Go.RowKit
set_option linter.unusedVariables false
set_option linter.unusedSimpArgs false

def textOk (s : ByteArray) : Bool := decide ((s.size : Int) ≤ 100) && bytesIn 33 126 s
theorem text_spec (s : ByteArray) (v : Bool) (hv : textOk s = v) (w : World) (hs : s.size ≤ 1048576) :
    Calls Try.prog 72 #[.string s] w fun e w' => e = .returned (.bool v) ∧ w = w' := by
  replace hv := Lib.hid hv
  go_enter Try.func72, Try.ntmps72
  go_wp2
  go_loop [3] (fun i => ∃ k : Nat, k ≤ s.size ∧ i = .int .i64 k ∧ ∀ j (hj : j < s.size), j < k → 33 ≤ (s[j]'hj).toNat ∧ (s[j]'hj).toNat ≤ 126) (fun i => s.size - (intOf i).toNat)
  case atStart => exact ⟨0, by omega, rfl, fun j hj h => absurd h (by omega)⟩
  case round =>
    obtain ⟨k, hk, rfl, hall⟩ := hrel
    replace hall := Lib.hid hall
    by_cases hlt : k < s.size
    · by_cases h1 : 33 ≤ (s[k]'hlt).toNat
      · have g1 : decide ((s[k]'hlt).toNat < 33) = false := decide_eq_false (by omega)
        have g1' : decide (((s[k]'hlt).toNat : Int) < 33) = false := decide_eq_false (by omega)
        by_cases h2 : (s[k]'hlt).toNat ≤ 126
        · have g2 : decide (126 < (s[k]'hlt).toNat) = false := decide_eq_false (by omega)
          have g2' : decide ((126 : Int) < ((s[k]'hlt).toNat : Int)) = false := decide_eq_false (by omega)
          have hnext : Hid (∀ j (hj : j < s.size), j < k + 1 → 33 ≤ (s[j]'hj).toNat ∧ (s[j]'hj).toNat ≤ 126) := Lib.hid fun j hj h => by
            rcases Nat.lt_or_ge j k with h' | h'
            · exact hall.out j hj h'
            · obtain rfl : j = k := by omega
              exact ⟨h1, h2⟩
          replace h1 := Lib.hid h1
          replace h2 := Lib.hid h2
          go_wp2
          go_round
          case rel => exact ⟨k + 1, by omega, by go_num, hnext.out⟩
          case measure => simp [intOf]; omega
        · have g2 : decide (126 < (s[k]'hlt).toNat) = true := decide_eq_true (by omega)
          have g2' : decide ((126 : Int) < ((s[k]'hlt).toNat : Int)) = true := decide_eq_true (by omega)
          have hr : Hid (v = false) := Lib.hid (by rw [← hv.out, textOk, bytesIn_no hlt fun h => h2 h.2, Bool.and_false])
          replace h1 := Lib.hid h1
          replace h2 := Lib.hid h2
          go_wp2
          go_ret
          exact ⟨ret_bo hr.out.symm, rfl⟩
      · have g1 : decide ((s[k]'hlt).toNat < 33) = true := decide_eq_true (by omega)
        have g1' : decide (((s[k]'hlt).toNat : Int) < 33) = true := decide_eq_true (by omega)
        have hr : Hid (v = false) := Lib.hid (by rw [← hv.out, textOk, bytesIn_no hlt fun h => h1 h.1, Bool.and_false])
        replace h1 := Lib.hid h1
        go_wp2
        go_ret
        exact ⟨ret_bo hr.out.symm, rfl⟩
    · have hr : Hid (v = decide ((s.size : Int) ≤ 100)) := Lib.hid (by rw [← hv.out, textOk, bytesIn_yes (fun j hj => hall.out j hj (by omega)), Bool.and_true])
      go_wp2
      go_ret
      exact ⟨ret_bo hr.out.symm, rfl⟩
theorem text_impl (s : ByteArray) (v : Bool) (hv : textOk s = v) (w : World) (hs : s.size ≤ 1048576) :
    Calls Try.prog 73 #[.string s] w fun e w' => e = .returned (.bool v) ∧ w = w' := by
  have hb := fun W => hasBytes_any s 33 126 100 v hv W (by unfold maxLen; omega)
  replace hb := Lib.hid hb
  clear hv
  go_enter Try.func73, Try.ntmps73
  go_wp2_with fail
  refine (hb.out _).mono ?_
  rintro e w' ⟨rfl, rfl⟩
  go_wp2
  go_ret
  exact ⟨rfl, rfl⟩
end Go.Proofs.Yticggclpaalhgaa
