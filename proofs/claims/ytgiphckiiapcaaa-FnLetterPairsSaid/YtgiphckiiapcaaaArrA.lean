/- Arrangements: which numbers are one; the model's function and the program's. -/
import Derived.Test.YtgiphckiiapcaaaArr0
import Derived.Test.YtgiphckiiapcaaaBarsS
import Derived.Test.YtgiphckiiapcaaaIntS
namespace Go.Proofs.Ytgiphckiiapcaaa
open Go.RowKit
set_option linter.unusedVariables false
set_option linter.unusedSimpArgs false

theorem contains_drop {xs : List Int} {k : Nat} {x y : Int} (hx : xs[k]? = some y) : (xs.drop k).contains x = (x == y || (xs.drop (k + 1)).contains x) := by
  obtain ⟨h1, rfl⟩ := List.getElem?_eq_some_iff.1 hx
  rw [List.drop_eq_getElem_cons h1, List.contains_cons]
theorem contains_end {xs : List Int} {k : Nat} {x : Int} (h : xs.length = k) : (xs.drop k).contains x = false := by
  rw [List.drop_of_length_le (by omega)]
  rfl

theorem has_spec (A : Option Addr) (n c : Nat) (xs : List Int) (x : Int) {v : Bool} (hv : xs.contains x = v) (w : World) (h : Ints w A n xs) (hn : n ≤ 1048576) :
    Calls Try.prog 30 #[.slice A n c, .int .i64 x] w fun e w' => e = .returned (.bool v) ∧ w = w' := by
  have hv0 : Hid (xs.contains x = v) := Lib.hid hv
  clear hv
  go_enter Try.func30, Try.ntmps30
  go_wp2
  go_loopw [5] (fun i wr => ∃ k : Nat, k ≤ n ∧ i = .int .i64 k ∧ w = wr ∧ xs.contains x = (xs.drop k).contains x) (fun i _ => n - (intOf i).toNat)
  case atStart => exact ⟨0, by omega, rfl, rfl, rfl⟩
  case round =>
    obtain ⟨k, hk, rfl, rfl, he⟩ := hrel
    replace he := Lib.hid he
    by_cases hlt : k < n
    · obtain ⟨b, off, y, rfl, hb, hx, c0⟩ := int_at h hlt
      have hst := Lib.hid (contains_drop (x := x) hx.out)
      have hk0 : (0 : Int) ≤ (k : Int) := Int.natCast_nonneg _
      have hk1 : (k : Int) < (n : Int) := by omega
      by_cases hxy : x = y
      · have hr : Hid (v = true) := Lib.hid (by rw [← hv0.out, he.out, hst.out, hxy]; simp)
        have e1 : (x == y) = true := beq_iff_eq.2 hxy
        have e2 : (y == x) = true := beq_iff_eq.2 hxy.symm
        clear hxy
        go_wp2
        go_ret
        exact ⟨by rw [hr.out]; rfl, rfl⟩
      · have e1 : (x == y) = false := beq_eq_false_iff_ne.2 hxy
        have e2 : (y == x) = false := beq_eq_false_iff_ne.2 (fun h => hxy h.symm)
        have hnx : Hid (xs.contains x = (xs.drop (k + 1)).contains x) := Lib.hid (by rw [he.out, hst.out, e1]; rfl)
        clear hxy
        go_wp2
        go_roundw
        case rel => exact ⟨k + 1, by omega, by go_num, by trivial, hnx.out⟩
        case measure => simp [intOf]; omega
    · obtain rfl : k = n := by omega
      have hr : Hid (v = false) := Lib.hid (by rw [← hv0.out, he.out, contains_end h.1])
      go_wp2
      go_ret
      exact ⟨by rw [hr.out]; rfl, rfl⟩

end Go.Proofs.Ytgiphckiiapcaaa
