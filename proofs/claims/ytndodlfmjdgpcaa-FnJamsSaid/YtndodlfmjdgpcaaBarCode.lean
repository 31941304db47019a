/- The code of a basket and bars: the model's function and the program's, which asks slices.ContainsFunc. -/
import Derived.Test.YtndodlfmjdgpcaaBarsB
import Derived.Test.YtndodlfmjdgpcaaBarsS
import Derived.Test.YtndodlfmjdgpcaaIntS
namespace Go.Proofs.Ytndodlfmjdgpcaa
open Go.RowKit
set_option linter.unusedVariables false
set_option linter.unusedSimpArgs false

def lacksB (b : BasketD) (x : Int) : Bool := !hasBar b x
def codeOf (b : BasketD) (bars : List Int) : Int := if basketOk b = true then (if (decide (bars.length ≤ 60) && !bars.any (lacksB b)) = true then 0 else 2) else 1
theorem any_drop {α : Type} {p : α → Bool} {xs : List α} {k : Nat} {x : α} (hx : xs[k]? = some x) : (xs.drop k).any p = (p x || (xs.drop (k + 1)).any p) := by
  obtain ⟨h1, rfl⟩ := List.getElem?_eq_some_iff.1 hx
  rw [List.drop_eq_getElem_cons h1]
  rfl
theorem any_end {α : Type} {p : α → Bool} {xs : List α} {k : Nat} (h : xs.length = k) : (xs.drop k).any p = false := by
  rw [List.drop_of_length_le (by omega)]
  rfl
set_option maxRecDepth 100000 in
set_option maxHeartbeats 1600000 in
theorem idx_lacks (b : BasketD) (A : Option Addr) (n c : Nat) (xs : List Int) (w : World) (hb : basketOk b = true) (h : Ints w A n xs) (hn : n ≤ 1048576) :
    Calls Try.prog 101 #[.slice A n c, .func (.func 61) #[.agg #[.int .i64 b.bars, .int .i64 b.rise, .int .i64 b.fall, .int .i64 b.clear, .int .i64 b.near]] #[]] w fun e w' => (∃ i : Int, e = .returned (.int .i64 i) ∧ decide (0 ≤ i) = xs.any (lacksB b)) ∧ Below w.heap.size w w' := by
  have hl := fun m (v : Bool) (hv : hasBar b m = v) W => lacks_impl b m (v := v) hv hb W
  replace hl := Lib.hid hl
  clear hb
  go_enter Try.func101, Try.ntmps101
  go_wp2
  go_loopw [8] (fun i wr => ∃ k : Nat, k ≤ n ∧ i = .int .i64 k ∧ Below w.heap.size w wr ∧ xs.any (lacksB b) = (xs.drop k).any (lacksB b)) (fun i _ => n - (intOf i).toNat)
  case atStart => exact ⟨0, by omega, rfl, Below.refl _ _, rfl⟩
  case round =>
    obtain ⟨k, hk, rfl, hbw, he⟩ := hrel
    replace he := Lib.hid he
    by_cases hlt : k < n
    · obtain ⟨bb, off, x, rfl, hb', hx, c0⟩ := int_at (h.below hbw) hlt
      have hk0 : (0 : Int) ≤ (k : Int) := Int.natCast_nonneg _
      have hk1 : (k : Int) < (n : Int) := by omega
      have hst := Lib.hid (any_drop (p := lacksB b) hx.out)
      cases h1 : hasBar b x with
      | false =>
        have hr : Hid (xs.any (lacksB b) = true) := Lib.hid (by rw [he.out, hst.out]; simp [lacksB, h1])
        replace h1 := Lib.hid h1
        go_wp2_with fail
        refine (hl.out x false h1.out _).mono ?_
        rintro e w1 ⟨rfl, hb1⟩
        go_wp2
        go_ret
        exact ⟨⟨_, rfl, by rw [hr.out]; simp⟩, hbw.step hb1⟩
      | true =>
        have hnx : Hid (xs.any (lacksB b) = (xs.drop (k + 1)).any (lacksB b)) := Lib.hid (by rw [he.out, hst.out]; simp [lacksB, h1])
        replace h1 := Lib.hid h1
        go_wp2_with fail
        refine (hl.out x true h1.out _).mono ?_
        rintro e w1 ⟨rfl, hb1⟩
        go_wp2
        go_roundw
        case rel => exact ⟨k + 1, by omega, by go_num, hbw.step hb1, hnx.out⟩
        case measure => simp [intOf]; omega
    · obtain rfl : k = n := by omega
      have hr : Hid (xs.any (lacksB b) = false) := Lib.hid (by rw [he.out, any_end h.1])
      go_wp2
      go_ret
      exact ⟨⟨_, rfl, by rw [hr.out]; rfl⟩, hbw⟩
theorem has_lacks (b : BasketD) (A : Option Addr) (n c : Nat) (xs : List Int) (w : World) (hb : basketOk b = true) (h : Ints w A n xs) (hn : n ≤ 1048576) (v : Bool) (hv : xs.any (lacksB b) = v) :
    Calls Try.prog 59 #[.slice A n c, .func (.func 61) #[.agg #[.int .i64 b.bars, .int .i64 b.rise, .int .i64 b.fall, .int .i64 b.clear, .int .i64 b.near]] #[]] w fun e w' => e = .returned (.bool v) ∧ Below w.heap.size w w' := by
  have hi := idx_lacks b A n c xs w hb h hn
  rw [hv] at hi
  replace hi := Lib.hid hi
  clear hv hb h
  go_enter Try.func59, Try.ntmps59
  go_wp2_with fail
  refine (hi.out).mono ?_
  rintro e w1 ⟨⟨i, rfl, hd⟩, hb1⟩
  replace hd := Lib.hid hd
  go_wp2
  go_ret
  exact ⟨ret_bo hd.out, hb1⟩

end Go.Proofs.Ytndodlfmjdgpcaa
