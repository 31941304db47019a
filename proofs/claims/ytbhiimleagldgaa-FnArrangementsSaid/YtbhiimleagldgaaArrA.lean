/- Arrangements: which numbers are one; the model's function and the program's. -/
import Derived.Test.YtbhiimleagldgaaArr0
import Derived.Test.YtbhiimleagldgaaBarsS
import Derived.Test.YtbhiimleagldgaaIntS
namespace Go.Proofs.Ytbhiimleagldgaa
open Go.RowKit
set_option linter.unusedVariables false
set_option linter.unusedSimpArgs false

theorem contains_drop {xs : List Int} {k : Nat} {x y : Int} (hx : xs[k]? = some y) : (xs.drop k).contains x = (x == y || (xs.drop (k + 1)).contains x) := by
  obtain ⟨h1, rfl⟩ := List.getElem?_eq_some_iff.1 hx
  rw [List.drop_eq_getElem_cons h1, List.contains_cons]
theorem contains_end {xs : List Int} {k : Nat} {x : Int} (h : xs.length = k) : (xs.drop k).contains x = false := by
  rw [List.drop_of_length_le (by omega)]
  rfl

theorem idx_impl (A : Option Addr) (n c : Nat) (xs : List Int) (x : Int) {v : Bool} (hv : xs.contains x = v) (w : World) (h : Ints w A n xs) (hn : n ≤ 1048576) :
    Calls Try.prog 55 #[.slice A n c, .int .i64 x] w fun e w' => (∃ i : Int, e = .returned (.int .i64 i) ∧ decide (0 ≤ i) = v) ∧ w = w' := by
  have hv0 : Hid (xs.contains x = v) := Lib.hid hv
  clear hv
  go_enter Try.func55, Try.ntmps55
  go_wp2
  go_loopw [8] (fun i wr => ∃ k : Nat, k ≤ n ∧ i = .int .i64 k ∧ w = wr ∧ xs.contains x = (xs.drop k).contains x) (fun i _ => n - (intOf i).toNat)
  case atStart => exact ⟨0, by omega, rfl, rfl, rfl⟩
  case round =>
    obtain ⟨k, hk, rfl, rfl, he⟩ := hrel
    replace he := Lib.hid he
    by_cases hlt : k < n
    · obtain ⟨b, off, y, rfl, hb, hx, c0⟩ := int_at h hlt
      have hst := Lib.hid (contains_drop (x := x) hx.out)
      have hk0 : (0 : Int) ≤ (k : Int) := Int.natCast_nonneg _
      have hk1 : (k : Int) < (n : Int) := by omega
      by_cases hxy : x = y
      · have hr : Hid (v = true) := Lib.hid (by rw [← hv0.out, he.out, hst.out, hxy]; simp)
        have e1 : (x == y) = true := beq_iff_eq.2 hxy
        have e2 : (y == x) = true := beq_iff_eq.2 hxy.symm
        clear hxy
        go_wp2
        go_ret
        exact ⟨⟨_, rfl, by rw [hr.out]; simp⟩, rfl⟩
      · have e1 : (x == y) = false := beq_eq_false_iff_ne.2 hxy
        have e2 : (y == x) = false := beq_eq_false_iff_ne.2 (fun h => hxy h.symm)
        have hnx : Hid (xs.contains x = (xs.drop (k + 1)).contains x) := Lib.hid (by rw [he.out, hst.out, e1]; rfl)
        clear hxy
        go_wp2
        go_roundw
        case rel => exact ⟨k + 1, by omega, by go_num, by trivial, hnx.out⟩
        case measure => simp [intOf]; omega
    · obtain rfl : k = n := by omega
      have hr : Hid (v = false) := Lib.hid (by rw [← hv0.out, he.out, contains_end h.1])
      go_wp2
      go_ret
      exact ⟨⟨_, rfl, by rw [hr.out]; rfl⟩, rfl⟩

theorem has_impl (A : Option Addr) (n c : Nat) (xs : List Int) (x : Int) {v : Bool} (hv : xs.contains x = v) (w : World) (h : Ints w A n xs) (hn : n ≤ 1048576) :
    Calls Try.prog 51 #[.slice A n c, .int .i64 x] w fun e w' => e = .returned (.bool v) ∧ w = w' := by
  have hi := Lib.hid (idx_impl A n c xs x hv w h hn)
  clear hv h
  go_enter Try.func51, Try.ntmps51
  go_wp2_with fail
  refine (hi.out).mono ?_
  rintro e w1 ⟨⟨i, rfl, hd⟩, rfl⟩
  replace hd := Lib.hid hd
  go_wp2
  go_ret
  exact ⟨ret_bo hd.out, rfl⟩

set_option maxRecDepth 100000 in
set_option maxHeartbeats 1600000 in
theorem arr_impl (b : BasketD) (A : Option Addr) (n c : Nat) (ps : List Int) {v : Bool} (hv : arrB b [] ps = v) (w : World) (hok : basketOk b = true) (h : Ints w A n ps) (hn : n ≤ 1048576) (hc : n ≤ c) :
    Calls Try.prog 41 #[.agg #[.int .i64 b.bars, .int .i64 b.rise, .int .i64 b.fall, .int .i64 b.clear, .int .i64 b.near], .slice A n c] w fun e w' => e = .returned (.bool v) ∧ Below w.heap.size w w' := by
  have hv0 : Hid (arrB b [] ps = v) := Lib.hid hv
  have hbar := fun (x : Int) (u : Bool) (hu : hasBar b x = u) W => lacks_impl b x (v := u) hu hok W
  replace hbar := Lib.hid hbar
  clear hv hok
  have hnew := fun W t => BoxB.new W b t
  replace hnew := Lib.hid hnew
  go_enter Try.func41, Try.ntmps41
  go_wp2
  have hbox := Lib.hid (hnew.out w 25)
  have hS := h.below (below_a1 w (.cells #[.int .i64 b.bars, .int .i64 b.rise, .int .i64 b.fall, .int .i64 b.clear, .int .i64 b.near] 25))
  have hb0 := Lib.hid (below_a1 w (.cells #[.int .i64 b.bars, .int .i64 b.rise, .int .i64 b.fall, .int .i64 b.clear, .int .i64 b.near] 25))
  have hl0 := Lib.hid h.1
  clear h hnew
  generalize hw1 : w.alloc (.cells #[.int .i64 b.bars, .int .i64 b.rise, .int .i64 b.fall, .int .i64 b.clear, .int .i64 b.near] 25) = w1 at *
  clear hw1
  generalize hN : w.heap.size = N at *
  replace hN := Lib.hid hN
  go_loopw [9] (fun i wr => ∃ k : Nat, k ≤ n ∧ i = .int .i64 k ∧ Below w1.heap.size w1 wr ∧ arrB b [] ps = arrB b (ps.take k) (ps.drop k)) (fun i _ => n - (intOf i).toNat)
  case atStart => exact ⟨0, by omega, rfl, Below.refl _ _, rfl⟩
  case round =>
    obtain ⟨k, hk, rfl, hbw, he⟩ := hrel
    replace he := Lib.hid he
    by_cases hlt : k < n
    · obtain ⟨bb, off, x, rfl, hb, hx, c0⟩ := int_at (hS.below hbw) hlt
      have hst := Lib.hid (arrB_drop (b := b) hx.out)
      have hk0 : (0 : Int) ≤ (k : Int) := Int.natCast_nonneg _
      have hk1 : (k : Int) < (n : Int) := by omega
      have hk2 : (k : Int) ≤ (c : Int) := by omega
      obtain ⟨d0, d1, d2, d3, d4⟩ := hbox.out.step hbw
      cases h1 : hasBar b x with
      | false =>
        have hr : Hid (v = false) := Lib.hid (by rw [← hv0.out, he.out, hst.out, h1]; rfl)
        have hj := Lib.hid (hbar.out x false h1)
        clear h1
        go_wp2_with fail
        refine (hj.out _).mono ?_
        rintro e w2 ⟨rfl, hb1⟩
        go_wp2
        go_ret
        obtain rfl := hN.out
        exact ⟨ret_bo hr.out.symm, (hb0.out.step hbw).step hb1⟩
      | true =>
        have hj := Lib.hid (hbar.out x true h1)
        cases h2 : (ps.take k).contains x with
        | true =>
          have hr : Hid (v = false) := Lib.hid (by rw [← hv0.out, he.out, hst.out, h1, h2]; rfl)
          have hh := Lib.hid (fun W (hW : Below wr.heap.size wr W) => has_impl (some ⟨bb, off, none⟩) k c (ps.take k) x h2 W (((hS.below hbw).below hW).take hk) (by omega))
          clear h1 h2
          go_wp2_with fail
          refine (hj.out _).mono ?_
          rintro e w2 ⟨rfl, hb1⟩
          go_wp2_with fail
          refine (hh.out _ hb1).mono ?_
          rintro e w3 ⟨rfl, rfl⟩
          go_wp2
          go_ret
          obtain rfl := hN.out
          exact ⟨ret_bo hr.out.symm, (hb0.out.step hbw).step hb1⟩
        | false =>
          have hnx : Hid (arrB b [] ps = arrB b (ps.take (k + 1)) (ps.drop (k + 1))) := Lib.hid (by rw [he.out, hst.out, h1, h2]; rfl)
          have hh := Lib.hid (fun W (hW : Below wr.heap.size wr W) => has_impl (some ⟨bb, off, none⟩) k c (ps.take k) x h2 W (((hS.below hbw).below hW).take hk) (by omega))
          clear h1 h2
          go_wp2_with fail
          refine (hj.out _).mono ?_
          rintro e w2 ⟨rfl, hb1⟩
          go_wp2_with fail
          refine (hh.out _ hb1).mono ?_
          rintro e w3 ⟨rfl, rfl⟩
          go_wp2
          go_roundw
          case rel => exact ⟨k + 1, by omega, by go_num, hbw.step hb1, hnx.out⟩
          case measure => simp [intOf]; omega
    · obtain rfl : k = n := by omega
      have hr : Hid (v = true) := Lib.hid (by rw [← hv0.out, he.out, arrB_end (by rw [hl0.out]; omega)])
      go_wp2
      go_ret
      obtain rfl := hN.out
      exact ⟨ret_bo hr.out.symm, hb0.out.step hbw⟩
end Go.Proofs.Ytbhiimleagldgaa
