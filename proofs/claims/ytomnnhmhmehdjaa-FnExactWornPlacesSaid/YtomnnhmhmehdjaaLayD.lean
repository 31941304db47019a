/- A Layout as an argument and as a result: what the law's own helpers on one do. -/
import Derived.Test.YtomnnhmhmehdjaaStrO
import Derived.Test.YtomnnhmhmehdjaaIntO
import Derived.Test.YtomnnhmhmehdjaaOpen0
import Derived.ChangeArms
import Derived.ChangeMaps5
import Derived.Outline
import Derived.LoopTactic
namespace Go.Proofs.Ytomnnhmhmehdjaa
open Go.RowKit Go.ChangeShapes Go.WideShapes Go.Deep
set_option linter.unusedVariables false
set_option linter.unusedSimpArgs false

theorem frozen_new {w : World} {cs : Array Value} {t : TypeId} {b o : Nat} (hb : b = w.heap.size) : (w.alloc (.cells cs t)).frozen? ⟨b, o, none⟩ = false := by
  subst hb
  have hq : (w.alloc (.cells cs t)).heap[w.heap.size]? = some (.cells cs t) := heap_alloc_new _ _
  exact own_frozen hq o
theorem frozen_on {w : World} {b o : Nat} (hb : b < w.heap.size) (h : w.frozen? ⟨b, o, none⟩ = false) (x : Obj) : (w.alloc x).frozen? ⟨b, o, none⟩ = false :=
  ((below_a1 w x).frozen (p := ⟨b, o, none⟩) hb).trans h
def strGood (x : ByteArray) : Prop := x.size ≤ maxLen
theorem toStrS_own (A : Option Addr) (n c : Nat) (ps : List ByteArray) (w : World) (h : Strs w A n ps) (hn : n ≤ 1048576) :
    Calls Try.prog 32 #[.slice A n c] w fun e w' => ∃ g, e = .returned (.slice (some ⟨g, 0, none⟩) n n) ∧ OStrs w' w.heap.size (some ⟨g, 0, none⟩) n ps ∧ Below w.heap.size w w' := by
  obtain ⟨i0, hi, hz0, hz1, hz2⟩ := info_parts Try.infoStr
  have hmk := fun W => run_make_many (P := Try.prog) 40 9 i0 _ Try.underlying40 hi hz0 .i64 .i64 n (by rw [hz2]; omega) (by omega) W
  rw [hz1] at hmk
  go_enter Try.func32, Try.ntmps32
  go_wp2
  go_loopw [4] (fun i wr => ∃ k : Nat, k ≤ n ∧ i = .int .i64 k ∧ Below w.heap.size w wr ∧ Filled 1 strC wr w.heap.size 9 (n) ps k) (fun i _ => n - (intOf i).toNat)
  case atStart => exact ⟨0, by omega, rfl, (Below.refl _ w).alloc (Nat.le_refl _) _, .start _ (made_row _ _ _ _)⟩
  case round =>
    obtain ⟨k, hk, rfl, hbw, hF⟩ := hrel
    by_cases hlt : k < n
    · obtain ⟨b, off, x, rfl, hb, hx, c0⟩ := str_at (h.below hbw) hlt
      obtain ⟨f, hrow1⟩ := hF.row
      have d0 := hrow1.cell (i := k) (by omega)
      have e0 := hrow1.frozen k
      have hstep := Lib.hid (hF.step hx.out (fun _ => rfl))
      simp only [strC, putRow, Nat.mul_one] at hstep
      have hbw1 := hbw.setCell (p := ⟨w.heap.size, k, none⟩) (Nat.le_refl _) (.string x)
      go_wp2
      go_roundw
      case rel => exact ⟨k + 1, by omega, by go_num, hbw1, hstep.out⟩
      case measure => simp [intOf]; omega
    · obtain rfl : k = n := by omega
      have hres := Lib.hid (ORow.of_filled (show Filled 1 strC wr w.heap.size 9 (k * 1) ps k by simpa using hF) h.1 (Nat.le_refl _) (fun _ => rfl))
      go_wp2
      go_ret
      exact ⟨_, rfl, hres.out, hbw⟩

/-- What szS hands back: less than nothing, or all is small. -/
def szStrOut (l : Int) (n : Nat) (ps : List ByteArray) (w : World) (e : Ending) (w' : World) : Prop :=
  ∃ v : Int, e = .returned (.int .i64 v) ∧ -1 ≤ v ∧ v ≤ l ∧ (0 ≤ v → (n : Int) ≤ l ∧ ∀ x ∈ ps, x.size ≤ 1048576) ∧ Below w.heap.size w w'
set_option maxHeartbeats 800000 in
theorem szStrS_any (A : Option Addr) (n c : Nat) (l : Int) (ps : List ByteArray) (w : World) (h : Strs w A n ps) (hg : ∀ x ∈ ps, strGood x) (h0 : 0 ≤ l) (h1 : l ≤ 1048576) (hn : n ≤ maxLen) :
    Calls Try.prog 30 #[.slice A n c, .int .i64 l] w (szStrOut l n ps w) := by
  unfold maxLen at hn
  by_cases hc : l - n < 0
  · go_enter Try.func30, Try.ntmps30
    go_wp2
    go_ret
    exact ⟨-1, rfl, by omega, by omega, fun h => absurd h (by omega), Below.refl _ _⟩
  · go_enter Try.func30, Try.ntmps30
    go_wp2
    go_loopw [1, 5] (fun left i wr => ∃ (k : Nat) (v : Int), k ≤ n ∧ i = .int .i64 k ∧ left = .int .i64 v ∧ 0 ≤ v ∧ v ≤ l ∧ (∀ j x, j < k → ps[j]? = some x → x.size ≤ 1048576) ∧ wr = w) (fun _ i _ => n - (intOf i).toNat)
    case atStart => exact ⟨0, l - n, by omega, rfl, rfl, by omega, by omega, fun j x hj => absurd hj (by omega), rfl⟩
    case round =>
      obtain ⟨k, v, hk, rfl, rfl, hv0, hv1, hs, rfl⟩ := hrel
      replace hs := Lib.hid hs
      by_cases hlt : k < n
      · obtain ⟨b, off, x, rfl, hb, hx, c0⟩ := str_at h hlt
        have hgx : x.size ≤ maxLen := hg x (List.mem_of_getElem? hx.out)
        unfold maxLen at hgx
        by_cases hneg : v - (x.size : Int) < 0
        · go_wp2
          go_ret
          exact ⟨-1, rfl, by omega, by omega, fun h => absurd h (by omega), Below.refl _ _⟩
        · have hnext : Hid (∀ j y, j < k + 1 → ps[j]? = some y → y.size ≤ 1048576) := Lib.hid fun j y hj hy => by
            rcases Nat.lt_or_ge j k with h2 | h2
            · exact hs.out j y h2 hy
            · obtain rfl : j = k := by omega
              have h3 := hx.out
              rw [hy] at h3
              cases h3
              omega
          go_wp2
          go_roundw
          case rel => exact ⟨k + 1, v - (x.size : Int), by omega, by go_num, rfl, by omega, by omega, hnext.out, by trivial⟩
          case measure => simp [intOf]; omega
      · obtain rfl : k = n := by omega
        have hall : Hid (∀ x ∈ ps, x.size ≤ 1048576) := Lib.hid fun x hx => by
          obtain ⟨j, hj, rfl⟩ := List.getElem_of_mem hx
          exact hs.out j _ (by rw [← h.1]; exact hj) (List.getElem?_eq_getElem hj)
        go_wp2
        go_ret
        exact ⟨v, rfl, by omega, by omega, fun _ => ⟨by omega, hall.out⟩, Below.refl _ _⟩

end Go.Proofs.Ytomnnhmhmehdjaa
