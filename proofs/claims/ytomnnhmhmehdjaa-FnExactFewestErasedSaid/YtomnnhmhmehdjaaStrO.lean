/- Slices of string that the law makes, marks and looks at again. -/
import Derived.Test.YtomnnhmhmehdjaaMarkT
import Derived.Test.YtomnnhmhmehdjaaOwn0
import Derived.Deep.RegionHeld3
import Derived.Deep.QuietTactic
import Derived.BigQuiet
namespace Go.Proofs.Ytomnnhmhmehdjaa
open Go.RowKit Go.ChangeShapes Go.WideShapes Go.Deep
set_option linter.unusedVariables false
set_option linter.unusedSimpArgs false

def strC (x : ByteArray) : List Value := [.string x]
abbrev Strs (w : World) (A : Option Addr) (n : Nat) (xs : List ByteArray) : Prop := SRow 1 strC w A n xs
abbrev OStrs (w : World) (base : Nat) (A : Option Addr) (n : Nat) (xs : List ByteArray) : Prop := ORow 9 1 strC w base A n xs
theorem str_at {w : World} {A : Option Addr} {n k : Nat} {xs : List ByteArray} (h : Strs w A n xs) (hk : k < n) :
    ∃ b off x, A = some ⟨b, off, none⟩ ∧ b < w.heap.size ∧ Hid (xs[k]? = some x) ∧ w.cell? ⟨b, off + k, none⟩ = some (.string x) := by
  obtain ⟨b, off, x, e, hb, hx, hc⟩ := h.at_ hk
  have h0 := hc 0 _ rfl
  rw [Nat.mul_one, Nat.add_zero] at h0
  exact ⟨b, off, x, e, hb, Lib.hid hx, h0⟩
theorem Try.infoStr : (Try.prog.info? 9).map (fun i => (i.zero, i.size, i.bytes)) = some (some (.string ⟨#[]⟩), 1, 16) := by kernel_rfl
/-- The marks: element i of those from k on. -/
def markStr (k : Int) : ByteArray := markT k
set_option maxHeartbeats 800000 in
theorem eqStrS_any (A B : Option Addr) (n m c d : Nat) (xs ys : List ByteArray) (w : World) (hA : Strs w A n xs) (hB : Strs w B m ys) (he : xs = ys) (hn : n ≤ 1048576) :
    Calls Try.prog 35 #[.slice A n c, .slice B m d] w fun e w' => e = .returned (.bool true) ∧ Below w.heap.size w w' := by
  subst he
  obtain rfl : n = m := by rw [← hA.1, hB.1]
  go_enter Try.func35, Try.ntmps35
  go_wp2
  go_loopw [5] (fun i wr => ∃ k : Nat, k ≤ n ∧ i = .int .i64 k ∧ Below w.heap.size w wr) (fun i _ => n - (intOf i).toNat)
  case atStart => exact ⟨0, by omega, rfl, Below.refl _ _⟩
  case round =>
    obtain ⟨k, hk, rfl, hbw⟩ := hrel
    by_cases hlt : k < n
    · obtain ⟨b, off, x, rfl, hb, hx, c0⟩ := str_at (hA.below hbw) hlt
      obtain ⟨b', off', y, rfl, hb', hy, d0⟩ := str_at (hB.below hbw) hlt
      obtain rfl : x = y := by have h1 := hx.out; have h2 := hy.out; rw [h1] at h2; exact Option.some.inj h2
      have hk0 : (0 : Int) ≤ (k : Int) := Int.natCast_nonneg _
      have hk1 : (k : Int) < (n : Int) := by omega
      go_wp2_with fail
      go_quiet (fail)
      go_wp2
      go_roundw
      case rel => exact ⟨k + 1, by omega, by go_num, below_drewN hbw _⟩
      case measure => simp [intOf]; omega
    · obtain rfl : k = n := by omega
      go_wp2
      go_ret
      exact ⟨rfl, hbw⟩

theorem markStr_cells (k : Int) : strC (markStr k) = [.string (markT k)] := rfl
set_option maxHeartbeats 800000 in
theorem markStrS_any (A : Option Addr) (n c : Nat) (k : Int) (xs : List ByteArray) (base : Nat) (w : World) (h : OStrs w base A n xs) (hn : n ≤ 1048576) (hk0 : 1 ≤ k) (hk1 : k ≤ 1099511627776) :
    Calls Try.prog 36 #[.slice A n c, .int .i64 k] w fun e w' => e = .returned (.int .i64 (k + (n : Int))) ∧ OStrs w' base A n (marksOf 1 markStr k n) ∧ w.grownBy w' (A.map (·.block)) := by
  by_cases h0 : n = 0
  · subst h0
    have hres : Hid (OStrs w base A 0 (marksOf 1 markStr k 0)) := Lib.hid (by
      have := List.length_eq_zero_iff.1 h.1
      subst this
      exact h)
    clear h
    go_enter Try.func36, Try.ntmps36
    go_wp2
    go_loopw [1, 5] (fun kv i wr => i = .int .i64 0 ∧ kv = .int .i64 k ∧ wr = w) (fun _ i _ => 0)
    case atStart => exact ⟨rfl, rfl, rfl⟩
    case round =>
      obtain ⟨rfl, rfl, rfl⟩ := hrel
      go_wp2
      go_ret
      exact ⟨by simp, hres.out, grown_refl _ _⟩
  · obtain ⟨hl, ⟨rfl, hz⟩ | ⟨g, m, f, rfl, hb, hr, hm, hf⟩⟩ := h
    · exact absurd hz h0
    · clear hf hl
      have hfin : Hid (∀ w', Filled 1 strC w' g 9 m (marksOf 1 markStr k n) n → OStrs w' base (some ⟨g, 0, none⟩) n (marksOf 1 markStr k n)) := Lib.hid fun w' hF => ORow.of_marked hF hm (marksOf_length _ _ _ _) hb (fun _ => rfl)
      go_enter Try.func36, Try.ntmps36
      go_wp2
      go_loopw [1, 5] (fun kv i wr => ∃ j : Nat, j ≤ n ∧ i = .int .i64 j ∧ kv = .int .i64 (k + (j : Int)) ∧ w.grownBy wr (some g) ∧ Filled 1 strC wr g 9 m (marksOf 1 markStr k n) j) (fun _ i _ => n - (intOf i).toNat)
      case atStart => exact ⟨0, by omega, rfl, by simp, grown_refl _ _, .start f hr⟩
      case round =>
        obtain ⟨j, hj, rfl, rfl, hgr, hF⟩ := hrel
        by_cases hlt : j < n

        · have hmt := Lib.hid (fun W => markText_int (k + (j : Int)) W (by omega) (by omega))
          go_wp2_with fail
          refine (hmt.out _).mono ?_
          rintro e w1 ⟨rfl, hb1⟩
          have hF1 := hF.below hb1 hF.lt
          have hgr1 := grown_trans hgr (grown_below hb1 (some g))
          have hstep := Lib.hid (hF1.step (marksOf_at (F := 1) (mk := markStr) (k := k) hlt) (fun _ => rfl))
          have hgs := Lib.hid (grown_trans hgr1 (grown_put (g := g) (strC (markStr (k + (j : Int)))) w1 (j * 1)))
          rw [markStr_cells] at hstep hgs
          simp only [putRow, Nat.mul_one, Int.one_mul, Int.natCast_one] at hstep hgs
          obtain ⟨f', hrow⟩ := hF1.row
          have d0 := hrow.cell (i := j) (by omega)
          have e0 := hrow.frozen (j)
          have hgb := hrow.lt
          go_wp2
          go_roundw
          case rel => exact ⟨j + 1, by omega, by go_num, by go_num, hgs.out, hstep.out⟩
          case measure => simp [intOf]; omega
        · obtain rfl : j = n := by omega
          have hres := Lib.hid (hfin.out _ hF)
          go_wp2
          go_ret
          exact ⟨rfl, hres.out, hgr⟩

end Go.Proofs.Ytomnnhmhmehdjaa
