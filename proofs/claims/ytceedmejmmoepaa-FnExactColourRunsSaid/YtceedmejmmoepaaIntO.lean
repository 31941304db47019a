/- Slices of Int64 that the law makes, marks and looks at again. -/
import Derived.Test.YtceedmejmmoepaaIntS
import Derived.Test.YtceedmejmmoepaaOwn0
namespace Go.Proofs.Ytceedmejmmoepaa
open Go.RowKit Go.ChangeShapes Go.WideShapes Go.Deep
set_option linter.unusedVariables false
set_option linter.unusedSimpArgs false

abbrev OInts (w : World) (base : Nat) (A : Option Addr) (n : Nat) (xs : List Int) : Prop := ORow 2 1 intC w base A n xs
/-- The marks: element i of those from k on. -/
def markInt (k : Int) : Int := k

theorem markInt_cells (k : Int) : intC (markInt k) = [.int .i64 (k)] := rfl
set_option maxHeartbeats 800000 in
theorem markIntS_any (A : Option Addr) (n c : Nat) (k : Int) (xs : List Int) (base : Nat) (w : World) (h : OInts w base A n xs) (hn : n ≤ 1048576) (hk0 : 0 ≤ k) (hk1 : k ≤ 1099511627776) :
    Calls Try.prog 19 #[.slice A n c, .int .i64 k] w fun e w' => e = .returned (.int .i64 (k + (n : Int))) ∧ OInts w' base A n (marksOf 1 markInt k n) ∧ w.grownBy w' (A.map (·.block)) := by
  by_cases h0 : n = 0
  · subst h0
    have hres : Hid (OInts w base A 0 (marksOf 1 markInt k 0)) := Lib.hid (by
      have := List.length_eq_zero_iff.1 h.1
      subst this
      exact h)
    clear h
    go_enter Try.func19, Try.ntmps19
    go_wp2
    go_loopw [1, 5] (fun kv i wr => i = .int .i64 0 ∧ kv = .int .i64 k ∧ wr = w) (fun _ i _ => 0)
    case atStart => exact ⟨rfl, rfl, rfl⟩
    case round =>
      obtain ⟨rfl, rfl, rfl⟩ := hrel
      go_wp2
      go_ret
      exact ⟨by simp, hres.out, grown_refl _ _⟩
  · obtain ⟨hl, ⟨rfl, hz⟩ | ⟨g, m, f, rfl, hb, hr, hm, hf⟩⟩ := h
    · exact absurd hz h0
    · clear hf hl
      have hfin : Hid (∀ w', Filled 1 intC w' g 2 m (marksOf 1 markInt k n) n → OInts w' base (some ⟨g, 0, none⟩) n (marksOf 1 markInt k n)) := Lib.hid fun w' hF => ORow.of_marked hF hm (marksOf_length _ _ _ _) hb (fun _ => rfl)
      go_enter Try.func19, Try.ntmps19
      go_wp2
      go_loopw [1, 5] (fun kv i wr => ∃ j : Nat, j ≤ n ∧ i = .int .i64 j ∧ kv = .int .i64 (k + (j : Int)) ∧ w.grownBy wr (some g) ∧ Filled 1 intC wr g 2 m (marksOf 1 markInt k n) j) (fun _ i _ => n - (intOf i).toNat)
      case atStart => exact ⟨0, by omega, rfl, by simp, grown_refl _ _, .start f hr⟩
      case round =>
        obtain ⟨j, hj, rfl, rfl, hgr, hF⟩ := hrel
        by_cases hlt : j < n

        · have hstep := Lib.hid (hF.step (marksOf_at (F := 1) (mk := markInt) (k := k) hlt) (fun _ => rfl))
          have hgs := Lib.hid (grown_trans hgr (grown_put (g := g) (intC (markInt (k + (j : Int)))) wr (j * 1)))
          rw [markInt_cells] at hstep hgs
          simp only [putRow, Nat.mul_one, Int.one_mul, Int.natCast_one] at hstep hgs
          obtain ⟨f', hrow⟩ := hF.row
          have d0 := hrow.cell (i := j) (by omega)
          have e0 := hrow.frozen (j)
          have hgb := hrow.lt
          go_wp2
          go_roundw
          case rel => exact ⟨j + 1, by omega, by go_num, by go_num, hgs.out, hstep.out⟩
          case measure => simp [intOf]; omega
        · obtain rfl : j = n := by omega
          have hres := Lib.hid (hfin.out _ hF)
          go_wp2
          go_ret
          exact ⟨rfl, hres.out, hgr⟩

set_option maxHeartbeats 800000 in
theorem heldIntS_any (A : Option Addr) (n c : Nat) (k : Int) (w : World) (h : Ints w A n (marksOf 1 markInt k n)) (hn : n ≤ 1048576) (hk0 : 0 ≤ k) (hk1 : k ≤ 1099511627776) :
    Calls Try.prog 20 #[.slice A n c, .int .i64 k] w fun e w' => e = .returned (.int .i64 (k + (n : Int))) ∧ Below w.heap.size w w' := by
  go_enter Try.func20, Try.ntmps20
  go_wp2
  go_loopw [1, 5] (fun kv i wr => ∃ j : Nat, j ≤ n ∧ i = .int .i64 j ∧ kv = .int .i64 (k + (j : Int)) ∧ Below w.heap.size w wr) (fun _ i _ => n - (intOf i).toNat)
  case atStart => exact ⟨0, by omega, rfl, by simp, Below.refl _ _⟩
  case round =>
    obtain ⟨j, hj, rfl, rfl, hbw⟩ := hrel
    by_cases hlt : j < n
    · obtain ⟨b, off, x, rfl, hb, hx, c0⟩ := int_at (h.below hbw) hlt
      have hxe := hx.out
      rw [marksOf_at hlt] at hxe
      cases hxe
      clear hx
      simp only [markInt, intC] at c0
      go_wp2
      go_roundw
      case rel => exact ⟨j + 1, by omega, by go_num, by go_num, hbw⟩
      case measure => simp [intOf]; omega
    · obtain rfl : j = n := by omega
      go_wp2
      go_ret
      exact ⟨rfl, hbw⟩

end Go.Proofs.Ytceedmejmmoepaa
