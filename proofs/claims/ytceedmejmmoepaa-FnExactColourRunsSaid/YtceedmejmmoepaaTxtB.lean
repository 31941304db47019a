/- Bytes of a text: the model's functions and the program's. (Out of Let0 and Afl0, for seats without their imports.) -/
import Derived.Test.YtceedmejmmoepaaRows0
import Derived.Test.YtceedmejmmoepaaOwn0
import Derived.Test.YtceedmejmmoepaaOpen0
import Derived.Test.YtceedmejmmoepaaProg
import Derived.WalkKit
import Derived.ProofKit
import Derived.Outline
import Derived.LoopTactic
import Derived.IntWalk
import Derived.Deep.QuietTactic
import Derived.BigQuiet
namespace Go.Proofs.Ytceedmejmmoepaa
open Go.RowKit Go.ChangeShapes Go.WideShapes Go.Deep
set_option linter.unusedVariables false
set_option linter.unusedSimpArgs false

/-- The bytes of a text from k on lie between lo and hi. -/
def bytesIn (lo hi : Nat) (s : ByteArray) : Bool := s.data.toList.all fun c => decide (lo ≤ c.toNat) && decide (c.toNat ≤ hi)
theorem bytesIn_no {lo hi : Nat} {s : ByteArray} {k : Nat} (hk : k < s.size) (h : ¬ (lo ≤ (s[k]'hk).toNat ∧ (s[k]'hk).toNat ≤ hi)) : bytesIn lo hi s = false := by
  unfold bytesIn
  rw [List.all_eq_false]
  refine ⟨s.data.toList[k]'hk, List.getElem_mem _, ?_⟩
  intro h2
  simp only [Bool.and_eq_true, decide_eq_true_eq] at h2
  exact h h2
theorem bytesIn_yes {lo hi : Nat} {s : ByteArray} (h : ∀ k (hk : k < s.size), lo ≤ (s[k]'hk).toNat ∧ (s[k]'hk).toNat ≤ hi) : bytesIn lo hi s = true := by
  unfold bytesIn
  rw [List.all_eq_true]
  intro x hx
  obtain ⟨i, hi', rfl⟩ := List.getElem_of_mem hx
  have := h i hi'
  simp only [Bool.and_eq_true, decide_eq_true_eq]
  exact this
theorem hasBytes_any (s : ByteArray) (lo hi : Nat) (most : Int) (v : Bool) (hv : (decide ((s.size : Int) ≤ most) && bytesIn lo hi s) = v) (w : World) (hs : s.size ≤ maxLen) :
    Calls Try.prog 55 #[.string s, .int .u8 lo, .int .u8 hi, .int .i64 most] w fun e w' => e = .returned (.bool v) ∧ w = w' := by
  unfold maxLen at hs
  by_cases hm : (s.size : Int) ≤ most
  · have hres : Hid (bytesIn lo hi s = v) := Lib.hid (by rw [← hv, decide_eq_true hm, Bool.true_and])
    have hg : decide (most < (s.size : Int)) = false := decide_eq_false (by omega)
    clear hv hm
    go_enter Try.func55, Try.ntmps55
    go_wp2
    go_loop [9, 16] (fun _ i => ∃ k : Nat, k ≤ s.size ∧ i = .int .i64 k ∧ ∀ j (hj : j < s.size), j < k → lo ≤ (s[j]'hj).toNat ∧ (s[j]'hj).toNat ≤ hi) (fun _ i => s.size - (intOf i).toNat)
    case atStart => exact ⟨0, by omega, rfl, fun j hj h => absurd h (by omega)⟩
    case round =>
      obtain ⟨k, hk, rfl, hall⟩ := hrel
      replace hall := Lib.hid hall
      by_cases hlt : k < s.size
      · by_cases h1 : lo ≤ (s[k]'hlt).toNat
        · have g1 : decide ((s[k]'hlt).toNat < lo) = false := decide_eq_false (by omega)
          by_cases h2 : (s[k]'hlt).toNat ≤ hi
          · have g2 : decide (hi < (s[k]'hlt).toNat) = false := decide_eq_false (by omega)
            have hnext : Hid (∀ j (hj : j < s.size), j < k + 1 → lo ≤ (s[j]'hj).toNat ∧ (s[j]'hj).toNat ≤ hi) := Lib.hid fun j hj h => by
              rcases Nat.lt_or_ge j k with h' | h'
              · exact hall.out j hj h'
              · obtain rfl : j = k := by omega
                exact ⟨h1, h2⟩
            clear h1 h2
            go_wp2
            go_round
            case rel => exact ⟨k + 1, by omega, by go_num, hnext.out⟩
            case measure => simp [intOf]; omega
          · have g2 : decide (hi < (s[k]'hlt).toNat) = true := decide_eq_true (by omega)
            have hr := Lib.hid (hres.out.symm.trans (bytesIn_no hlt fun h => h2 h.2))
            clear h1 h2
            go_wp2
            go_ret
            exact ⟨ret_bo hr.out.symm, rfl⟩
        · have g1 : decide ((s[k]'hlt).toNat < lo) = true := decide_eq_true (by omega)
          have hr := Lib.hid (hres.out.symm.trans (bytesIn_no hlt fun h => h1 h.1))
          clear h1
          go_wp2
          go_ret
          exact ⟨ret_bo hr.out.symm, rfl⟩
      · have hr := Lib.hid (hres.out.symm.trans (bytesIn_yes fun j hj => hall.out j hj (by omega)))
        go_wp2
        go_ret
        exact ⟨ret_bo hr.out.symm, rfl⟩
  · have hr : Hid (v = false) := Lib.hid (by rw [← hv, decide_eq_false hm, Bool.false_and])
    have hg : decide (most < (s.size : Int)) = true := decide_eq_true (by omega)
    clear hv hm
    go_enter Try.func55, Try.ntmps55
    go_wp2
    go_ret
    exact ⟨ret_bo hr.out.symm, rfl⟩
theorem byte_of {s : ByteArray} {k : Nat} (hk : k < s.size) : s.data.toList[k]? = some (s[k]'hk) := by
  have hk' : k < s.data.size := hk
  rw [Array.getElem?_toList, Array.getElem?_eq_getElem hk']
  rfl
theorem text_spec (s : ByteArray) (most : Int) (v : Bool) (hv : (decide ((s.size : Int) ≤ most) && bytesIn 32 126 s) = v) (w : World) (hs : s.size ≤ maxLen) :
    Calls Try.prog 54 #[.string s, .int .i64 most] w fun e w' => e = .returned (.bool v) ∧ w = w' := by
  unfold maxLen at hs
  have hno : Hid (∀ k (hk : k < s.size), ¬ (32 ≤ (s[k]'hk).toNat ∧ (s[k]'hk).toNat ≤ 126) → v = false) := Lib.hid fun k hk h => by rw [← hv, bytesIn_no hk h, Bool.and_false]
  have hyes : Hid ((∀ k (hk : k < s.size), 32 ≤ (s[k]'hk).toNat ∧ (s[k]'hk).toNat ≤ 126) → v = decide ((s.size : Int) ≤ most)) := Lib.hid fun h => by rw [← hv, bytesIn_yes h, Bool.and_true]
  clear hv
  go_enter Try.func54, Try.ntmps54
  go_wp2
  go_loop [5] (fun i => ∃ k : Nat, k ≤ s.size ∧ i = .int .i64 k ∧ ∀ j (hj : j < s.size), j < k → 32 ≤ (s[j]'hj).toNat ∧ (s[j]'hj).toNat ≤ 126) (fun i => s.size - (intOf i).toNat)
  case atStart => exact ⟨0, by omega, rfl, fun j hj h => absurd h (by omega)⟩
  case round =>
    obtain ⟨k, hk, rfl, hall⟩ := hrel
    replace hall := Lib.hid hall
    by_cases hlt : k < s.size
    · by_cases h1 : 32 ≤ (s[k]'hlt).toNat
      · have g1 : decide ((s[k]'hlt).toNat < 32) = false := decide_eq_false (by omega)
        have g1' : decide (((s[k]'hlt).toNat : Int) < 32) = false := decide_eq_false (by omega)
        by_cases h2 : (s[k]'hlt).toNat ≤ 126
        · have g2 : decide (126 < (s[k]'hlt).toNat) = false := decide_eq_false (by omega)
          have g2' : decide ((126 : Int) < ((s[k]'hlt).toNat : Int)) = false := decide_eq_false (by omega)
          have hnext : Hid (∀ j (hj : j < s.size), j < k + 1 → 32 ≤ (s[j]'hj).toNat ∧ (s[j]'hj).toNat ≤ 126) := Lib.hid fun j hj h => by
            rcases Nat.lt_or_ge j k with h' | h'
            · exact hall.out j hj h'
            · obtain rfl : j = k := by omega
              exact ⟨h1, h2⟩
          clear h1 h2
          go_wp2
          go_round
          case rel => exact ⟨k + 1, by omega, by go_num, hnext.out⟩
          case measure => simp [intOf]; omega
        · have g2 : decide (126 < (s[k]'hlt).toNat) = true := decide_eq_true (by omega)
          have g2' : decide ((126 : Int) < ((s[k]'hlt).toNat : Int)) = true := decide_eq_true (by omega)
          have hr := Lib.hid (hno.out k hlt fun h => h2 h.2)
          clear h1 h2
          go_wp2
          go_ret
          exact ⟨ret_bo hr.out.symm, rfl⟩
      · have g1 : decide ((s[k]'hlt).toNat < 32) = true := decide_eq_true (by omega)
        have g1' : decide (((s[k]'hlt).toNat : Int) < 32) = true := decide_eq_true (by omega)
        have hr := Lib.hid (hno.out k hlt fun h => h1 h.1)
        clear h1
        go_wp2
        go_ret
        exact ⟨ret_bo hr.out.symm, rfl⟩
    · have hr := Lib.hid (hyes.out fun j hj => hall.out j hj (by omega))
      go_wp2
      go_ret
      exact ⟨ret_bo hr.out.symm, rfl⟩
end Go.Proofs.Ytceedmejmmoepaa
