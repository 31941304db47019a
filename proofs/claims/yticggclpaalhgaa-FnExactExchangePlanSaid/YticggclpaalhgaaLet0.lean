/- Letters, bytes of a text, and whether a number lies between two others: the model's functions and the program's. -/
import Derived.Test.YticggclpaalhgaaRows0
import Derived.Test.YticggclpaalhgaaOwn0
import Derived.Test.YticggclpaalhgaaOpen0
import Derived.Test.YticggclpaalhgaaProg
import Derived.WalkKit
import Derived.ProofKit
import Derived.Outline
import Derived.LoopTactic
import Derived.IntWalk
import Derived.Deep.QuietTactic
import Derived.BigQuiet
namespace Go.Proofs.Yticggclpaalhgaa
open Go.RowKit Go.ChangeShapes Go.WideShapes Go.Deep
set_option linter.unusedVariables false
set_option linter.unusedSimpArgs false

def isIn (n lo hi : Int) : Bool := decide (lo ≤ n) && decide (n ≤ hi)
theorem isIn_iff {n lo hi : Int} : isIn n lo hi = true ↔ lo ≤ n ∧ n ≤ hi := by simp [isIn]
theorem isIn_not {n lo hi : Int} : isIn n lo hi = false ↔ ¬ (lo ≤ n ∧ n ≤ hi) := by rw [← isIn_iff]; simp
theorem in_spec {n lo hi : Int} {v : Bool} (h : isIn n lo hi = v) (w : World) :
    Calls Try.prog 80 #[.int .i64 n, .int .i64 lo, .int .i64 hi] w fun e w' => e = .returned (.bool v) ∧ w = w' := by
  by_cases h1 : lo ≤ n
  · have hres : Hid (v = decide (n ≤ hi)) := Lib.hid (by rw [← h]; simp [isIn, h1])
    clear h
    go_enter Try.func80, Try.ntmps80
    go_wp2
    go_ret
    exact ⟨ret_bo hres.out.symm, rfl⟩
  · have hres : Hid (v = false) := Lib.hid (by rw [← h]; simp [isIn, h1])
    clear h
    go_enter Try.func80, Try.ntmps80
    go_wp2
    go_ret
    exact ⟨ret_bo hres.out.symm, rfl⟩
theorem in_impl {n lo hi : Int} {v : Bool} (h : isIn n lo hi = v) (w : World) :
    Calls Try.prog 95 #[.int .i64 n, .int .i64 lo, .int .i64 hi] w fun e w' => e = .returned (.bool v) ∧ w = w' := by
  by_cases h1 : lo ≤ n
  · have hres : Hid (v = decide (n ≤ hi)) := Lib.hid (by rw [← h]; simp [isIn, h1])
    clear h
    go_enter Try.func95, Try.ntmps95
    go_wp2
    go_ret
    exact ⟨ret_bo hres.out.symm, rfl⟩
  · have hres : Hid (v = false) := Lib.hid (by rw [← h]; simp [isIn, h1])
    clear h
    go_enter Try.func95, Try.ntmps95
    go_wp2
    go_ret
    exact ⟨ret_bo hres.out.symm, rfl⟩
/-- A letter: one byte from 33 to 126. -/
def isLet (s : ByteArray) : Bool := match s.data.toList with
  | [c] => decide (33 ≤ c.toNat) && decide (c.toNat ≤ 126)
  | _ => false
theorem str_eq_true {a b : ByteArray} (h : a = b) : (a.toList == b.toList) = true := by rw [h]; exact beq_self_eq_true _
theorem str_eq_false {a b : ByteArray} (h : ¬ a = b) : (a.toList == b.toList) = false := by
  rw [beq_eq_false_iff_ne, ByteArray.toList_eq, ByteArray.toList_eq]
  intro e
  exact h (by apply ByteArray.ext; exact Array.toList_inj.1 e)
theorem isLet_one {s : ByteArray} (h : s.size = 1) : isLet s = (decide (33 ≤ (s[0]'(by omega)).toNat) && decide ((s[0]'(by omega)).toNat ≤ 126)) := by
  obtain ⟨⟨l⟩⟩ := s
  match l, h with
  | [c], _ => rfl
theorem isLet_not {s : ByteArray} (h : ¬ s.size = 1) : isLet s = false := by
  obtain ⟨⟨l⟩⟩ := s
  match l, h with
  | [], _ => rfl
  | [c], h => exact absurd rfl h
  | _ :: _ :: _, _ => rfl
theorem letter_spec (s : ByteArray) (b : Bool) (hb : isLet s = b) (w : World) (hs : s.size ≤ maxLen) :
    Calls Try.prog 56 #[.string s] w fun e w' => e = .returned (.bool b) ∧ w = w' := by
  subst hb
  unfold maxLen at hs
  by_cases h1 : s.size = 1
  · have hr := Lib.hid (isLet_one h1)
    have h1' : ((s.size : Int) == 1) = true := beq_iff_eq.2 (by omega)
    have hp : 0 < s.size := by omega
    by_cases h33 : 33 ≤ (s[0]'hp).toNat
    · have g1 : decide ((32 : Int) < ((s[0]'hp).toNat : Int)) = true := decide_eq_true (by omega)
      have hres : Hid (isLet s = decide (((s[0]'hp).toNat : Int) < 127)) := Lib.hid (by
        rw [hr.out, decide_eq_true h33, Bool.true_and]
        apply decide_eq_decide.2
        omega)
      clear h1 hr
      go_enter Try.func56, Try.ntmps56
      go_wp2
      go_ret
      exact ⟨ret_bo hres.out.symm, rfl⟩
    · have g1 : decide ((32 : Int) < ((s[0]'hp).toNat : Int)) = false := decide_eq_false (by omega)
      have hres : Hid (isLet s = false) := Lib.hid (by rw [hr.out, decide_eq_false h33, Bool.false_and])
      clear h1 hr
      go_enter Try.func56, Try.ntmps56
      go_wp2
      go_ret
      exact ⟨ret_bo hres.out.symm, rfl⟩
  · have hres := Lib.hid (isLet_not h1)
    have h1' : ((s.size : Int) == 1) = false := beq_eq_false_iff_ne.2 (by omega)
    clear h1
    go_enter Try.func56, Try.ntmps56
    go_wp2
    go_ret
    exact ⟨ret_bo hres.out.symm, rfl⟩
/-- The bytes of a text from k on lie between lo and hi. -/
def bytesIn (lo hi : Nat) (s : ByteArray) : Bool := s.data.toList.all fun c => decide (lo ≤ c.toNat) && decide (c.toNat ≤ hi)
theorem bytesIn_no {lo hi : Nat} {s : ByteArray} {k : Nat} (hk : k < s.size) (h : ¬ (lo ≤ (s[k]'hk).toNat ∧ (s[k]'hk).toNat ≤ hi)) : bytesIn lo hi s = false := by
  unfold bytesIn
  rw [List.all_eq_false]
  refine ⟨s.data.toList[k]'hk, List.getElem_mem _, ?_⟩
  intro h2
  simp only [Bool.and_eq_true, decide_eq_true_eq] at h2
  exact h h2
theorem bytesIn_yes {lo hi : Nat} {s : ByteArray} (h : ∀ k (hk : k < s.size), lo ≤ (s[k]'hk).toNat ∧ (s[k]'hk).toNat ≤ hi) : bytesIn lo hi s = true := by
  unfold bytesIn
  rw [List.all_eq_true]
  intro x hx
  obtain ⟨i, hi', rfl⟩ := List.getElem_of_mem hx
  have := h i hi'
  simp only [Bool.and_eq_true, decide_eq_true_eq]
  exact this
theorem hasBytes_any (s : ByteArray) (lo hi : Nat) (most : Int) (v : Bool) (hv : (decide ((s.size : Int) ≤ most) && bytesIn lo hi s) = v) (w : World) (hs : s.size ≤ maxLen) :
    Calls Try.prog 92 #[.string s, .int .u8 lo, .int .u8 hi, .int .i64 most] w fun e w' => e = .returned (.bool v) ∧ w = w' := by
  unfold maxLen at hs
  by_cases hm : (s.size : Int) ≤ most
  · have hres : Hid (bytesIn lo hi s = v) := Lib.hid (by rw [← hv, decide_eq_true hm, Bool.true_and])
    have hg : decide (most < (s.size : Int)) = false := decide_eq_false (by omega)
    clear hv hm
    go_enter Try.func92, Try.ntmps92
    go_wp2
    go_loop [9, 16] (fun _ i => ∃ k : Nat, k ≤ s.size ∧ i = .int .i64 k ∧ ∀ j (hj : j < s.size), j < k → lo ≤ (s[j]'hj).toNat ∧ (s[j]'hj).toNat ≤ hi) (fun _ i => s.size - (intOf i).toNat)
    case atStart => exact ⟨0, by omega, rfl, fun j hj h => absurd h (by omega)⟩
    case round =>
      obtain ⟨k, hk, rfl, hall⟩ := hrel
      replace hall := Lib.hid hall
      by_cases hlt : k < s.size
      · by_cases h1 : lo ≤ (s[k]'hlt).toNat
        · have g1 : decide ((s[k]'hlt).toNat < lo) = false := decide_eq_false (by omega)
          by_cases h2 : (s[k]'hlt).toNat ≤ hi
          · have g2 : decide (hi < (s[k]'hlt).toNat) = false := decide_eq_false (by omega)
            have hnext : Hid (∀ j (hj : j < s.size), j < k + 1 → lo ≤ (s[j]'hj).toNat ∧ (s[j]'hj).toNat ≤ hi) := Lib.hid fun j hj h => by
              rcases Nat.lt_or_ge j k with h' | h'
              · exact hall.out j hj h'
              · obtain rfl : j = k := by omega
                exact ⟨h1, h2⟩
            clear h1 h2
            go_wp2
            go_round
            case rel => exact ⟨k + 1, by omega, by go_num, hnext.out⟩
            case measure => simp [intOf]; omega
          · have g2 : decide (hi < (s[k]'hlt).toNat) = true := decide_eq_true (by omega)
            have hr := Lib.hid (hres.out.symm.trans (bytesIn_no hlt fun h => h2 h.2))
            clear h1 h2
            go_wp2
            go_ret
            exact ⟨ret_bo hr.out.symm, rfl⟩
        · have g1 : decide ((s[k]'hlt).toNat < lo) = true := decide_eq_true (by omega)
          have hr := Lib.hid (hres.out.symm.trans (bytesIn_no hlt fun h => h1 h.1))
          clear h1
          go_wp2
          go_ret
          exact ⟨ret_bo hr.out.symm, rfl⟩
      · have hr := Lib.hid (hres.out.symm.trans (bytesIn_yes fun j hj => hall.out j hj (by omega)))
        go_wp2
        go_ret
        exact ⟨ret_bo hr.out.symm, rfl⟩
  · have hr : Hid (v = false) := Lib.hid (by rw [← hv, decide_eq_false hm, Bool.false_and])
    have hg : decide (most < (s.size : Int)) = true := decide_eq_true (by omega)
    clear hv hm
    go_enter Try.func92, Try.ntmps92
    go_wp2
    go_ret
    exact ⟨ret_bo hr.out.symm, rfl⟩
theorem isLet_in {s : ByteArray} (h : s.size = 1) : isLet s = bytesIn 33 126 s := by
  obtain ⟨⟨l⟩⟩ := s
  match l, h with
  | [c], _ => simp [isLet, bytesIn]
theorem isLetter_any (s : ByteArray) (v : Bool) (hv : isLet s = v) (w : World) (hs : s.size ≤ maxLen) :
    Calls Try.prog 84 #[.string s] w fun e w' => e = .returned (.bool v) ∧ w = w' := by
  have hs' := hs
  unfold maxLen at hs'
  by_cases h1 : s.size = 1
  · have h1' : ((s.size : Int) == 1) = true := beq_iff_eq.2 (by omega)
    have hc := Lib.hid (hasBytes_any s 33 126 1 v (by rw [← hv, isLet_in h1, decide_eq_true (by omega), Bool.true_and]) w hs)
    clear h1 hv
    go_enter Try.func84, Try.ntmps84
    go_wp2_with (go_at_call 92; refine hc.out.mono ?_; rintro e w' ⟨rfl, rfl⟩)
    go_ret
    exact ⟨rfl, rfl⟩
  · have h1' : ((s.size : Int) == 1) = false := beq_eq_false_iff_ne.2 (by omega)
    have hr := Lib.hid (hv.symm.trans (isLet_not h1))
    clear h1 hv
    go_enter Try.func84, Try.ntmps84
    go_wp2_with fail
    go_ret
    exact ⟨ret_bo hr.out.symm, rfl⟩
end Go.Proofs.Yticggclpaalhgaa
