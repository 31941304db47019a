/- How often the shift is pressed or let go: the program and the model answer the same for every list of presses. -/
import Derived.Test.YtkdpileflddohaaPress0
namespace Go.Proofs.Ytkdpileflddohaa
open Go.RowKit
set_option linter.unusedVariables false
set_option linter.unusedSimpArgs false

def shFrom : Bool → List PressD → Nat
  | l, [] => if l then 1 else 0
  | l, p :: ps => (if !(p.shift == l) then 1 else 0) + shFrom p.shift ps
theorem shFrom_le : ∀ (ps : List PressD) (l : Bool), shFrom l ps ≤ ps.length + 1
  | [], l => by cases l <;> simp [shFrom]
  | p :: ps, l => by
    have := shFrom_le ps p.shift
    simp only [shFrom, List.length_cons]
    split <;> omega
theorem shFrom_step {ps : List PressD} {k : Nat} {x : PressD} (hx : ps[k]? = some x) (l : Bool) : shFrom l (ps.drop k) = (if !(x.shift == l) then 1 else 0) + shFrom x.shift (ps.drop (k + 1)) := by
  obtain ⟨h1, rfl⟩ := List.getElem?_eq_some_iff.1 hx
  rw [List.drop_eq_getElem_cons h1]
  rfl
theorem shFrom_end {ps : List PressD} {k : Nat} (hp : ps.length = k) (l : Bool) : shFrom l (ps.drop k) = if l then 1 else 0 := by
  rw [List.drop_of_length_le (by omega)]
  rfl
theorem ret_two {a b : Int} {c : Value} (h : a = b) : Ending.returned (.tuple #[.int .i64 a, c]) = .returned (.tuple #[.int .i64 b, c]) := by rw [h]

/-- What ShiftsOf answers: the number and the code. -/
def shN (n : Nat) (ps : List PressD) : Int := if 200 < n then 0 else shFrom false ps
def shC (n : Nat) : Int := if 200 < n then 2 else 0

set_option maxHeartbeats 800000 in
theorem shifts_spec (A : Option Addr) (n c : Nat) (ps : List PressD) (w : World) (h : Presses w A n ps) (hn : n ≤ maxLen) :
    Calls Try.prog 21 #[.slice A n c] w fun e w' => e = .returned (.tuple #[.int .i64 (shN n ps), .int .i64 (shC n)]) ∧ w = w' := by
  unfold maxLen at hn
  by_cases h2 : 200 < n
  · rw [show shN n ps = _ from if_pos h2, show shC n = _ from if_pos h2]
    go_enter Try.func21, Try.ntmps21
    go_wp2
    go_ret2
    exact ⟨rfl, rfl⟩
  · rw [show shN n ps = _ from if_neg h2, show shC n = _ from if_neg h2]
    go_enter Try.func21, Try.ntmps21
    go_wp2
    go_loop [4, 5, 6] (fun t l i => ∃ k m : Nat, ∃ x : Bool, k ≤ n ∧ m ≤ k ∧ i = .int .i64 k ∧ t = .int .i64 m ∧ l = .bool x ∧ m + shFrom x (ps.drop k) = shFrom false ps) (fun _ _ i => n - (intOf i).toNat)
    case atStart => exact ⟨0, 0, false, by omega, by omega, rfl, rfl, rfl, by simp⟩
    case round =>
      obtain ⟨k, m, l, hk, hm, rfl, rfl, rfl, ht⟩ := hrel
      have ht := Lib.hid ht
      by_cases hlt : k < n
      · obtain ⟨b, off, x, rfl, hb, hx, c0, c1⟩ := presses_at h hlt
        have hs := Lib.hid (shFrom_step hx.out l)
        by_cases hq : (!(x.shift == l)) = true
        · have hs2 : Hid (shFrom l (ps.drop k) = 1 + shFrom x.shift (ps.drop (k + 1))) := Lib.hid (by rw [hs.out, if_pos hq])
          clear hs
          go_wp2
          go_round
          case rel => exact ⟨k + 1, m + 1, x.shift, by omega, by omega, by go_num, by go_num, rfl, by have := ht.out; have := hs2.out; omega⟩
          case measure => simp [intOf]; omega
        · have hs2 : Hid (shFrom l (ps.drop k) = shFrom x.shift (ps.drop (k + 1))) := Lib.hid (by rw [hs.out, if_neg hq]; omega)
          have hq' : (!(x.shift == l)) = false := by simpa using hq
          clear hs hq
          go_wp2
          go_round
          case rel => exact ⟨k + 1, m, x.shift, by omega, by omega, by go_num, rfl, rfl, by have := ht.out; have := hs2.out; omega⟩
          case measure => simp [intOf]; omega
      · obtain rfl : k = n := by omega
        have hs := Lib.hid (shFrom_end h.1 l)
        cases l with
        | true =>
          go_wp2
          go_ret2
          exact ⟨ret_two (by have := ht.out; have := hs.out; simp at this; omega), rfl⟩
        | false =>
          go_wp2
          go_ret2
          exact ⟨ret_two (by have := ht.out; have := hs.out; simp at this; omega), rfl⟩

set_option maxHeartbeats 800000 in
theorem shifts_impl (A : Option Addr) (n c : Nat) (ps : List PressD) (w : World) (h : Presses w A n ps) (hn : n ≤ maxLen) :
    Calls Try.prog 20 #[.slice A n c] w fun e w' => e = .returned (.tuple #[.int .i64 (shN n ps), .int .i64 (shC n)]) ∧ Below w.heap.size w w' := by
  unfold maxLen at hn
  by_cases h2 : 200 < n
  · rw [show shN n ps = _ from if_pos h2, show shC n = _ from if_pos h2]
    go_enter Try.func20, Try.ntmps20
    go_wp2
    go_ret2
    exact ⟨rfl, Below.refl _ _⟩
  · rw [show shN n ps = _ from if_neg h2, show shC n = _ from if_neg h2]
    go_enter Try.func20, Try.ntmps20
    go_wp2
    go_loopw [4, 5, 13] (fun t l i wr => ∃ k m : Nat, ∃ x : Bool, k ≤ n ∧ m ≤ k ∧ i = .int .i64 k ∧ t = .int .i64 m ∧ l = .bool x ∧ m + shFrom x (ps.drop k) = shFrom false ps ∧ Below w.heap.size w wr) (fun _ _ i _ => n - (intOf i).toNat)
    case atStart => exact ⟨0, 0, false, by omega, by omega, rfl, rfl, rfl, by simp, Below.refl _ _⟩
    case round =>
      obtain ⟨k, m, l, hk, hm, rfl, rfl, rfl, ht, hbw⟩ := hrel
      have ht := Lib.hid ht
      by_cases hlt : k < n
      · obtain ⟨b, off, x, rfl, hb, hx, c0, c1⟩ := presses_at (h.below hbw) hlt
        have hs := Lib.hid (shFrom_step hx.out l)
        by_cases hq : (!(x.shift == l)) = true
        · have hs2 : Hid (shFrom l (ps.drop k) = 1 + shFrom x.shift (ps.drop (k + 1))) := Lib.hid (by rw [hs.out, if_pos hq])
          clear hs
          go_wp2
          go_roundw
          case rel => exact ⟨k + 1, m + 1, x.shift, by omega, by omega, by go_num, by go_num, rfl, by have := ht.out; have := hs2.out; omega, hbw.alloc hbw.size _⟩
          case measure => simp [intOf]; omega
        · have hs2 : Hid (shFrom l (ps.drop k) = shFrom x.shift (ps.drop (k + 1))) := Lib.hid (by rw [hs.out, if_neg hq]; omega)
          have hq' : (!(x.shift == l)) = false := by simpa using hq
          have hxl : Hid (l = x.shift) := Lib.hid (Eq.symm (by simpa using hq'))
          clear hs hq
          go_wp2
          go_roundw
          case rel => exact ⟨k + 1, m, x.shift, by omega, by omega, by go_num, rfl, congrArg Value.bool hxl.out, by have := ht.out; have := hs2.out; omega, hbw.alloc hbw.size _⟩
          case measure => simp [intOf]; omega
      · obtain rfl : k = n := by omega
        have hs := Lib.hid (shFrom_end h.1 l)
        cases l with
        | true =>
          go_wp2
          go_ret2
          exact ⟨ret_two (by have := ht.out; have := hs.out; simp at this; omega), hbw⟩
        | false =>
          go_wp2
          go_ret2
          exact ⟨ret_two (by have := ht.out; have := hs.out; simp at this; omega), hbw⟩
end Go.Proofs.Ytkdpileflddohaa
