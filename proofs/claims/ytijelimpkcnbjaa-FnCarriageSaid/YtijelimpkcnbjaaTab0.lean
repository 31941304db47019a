/- Racks of stops: whether numbers rise within bounds; the model's function and the program's. -/
import Derived.Test.YtijelimpkcnbjaaIntO
import Derived.Deep.QuietTactic
import Derived.BigQuiet
namespace Go.Proofs.Ytijelimpkcnbjaa
open Go.RowKit Go.ChangeShapes Go.WideShapes Go.Deep
set_option linter.unusedVariables false
set_option linter.unusedSimpArgs false

def inR (n lo hi : Int) : Bool := decide (lo ≤ n) && decide (n ≤ hi)
theorem inR_iff {n lo hi : Int} : inR n lo hi = true ↔ lo ≤ n ∧ n ≤ hi := by simp [inR]
/-- The numbers rise strictly, from lo on and up to hi. -/
def risesB (hi : Int) : Int → List Int → Bool
  | _, [] => true
  | lo, x :: r => inR x lo hi && risesB hi (x + 1) r
def rackB (ps : List Int) : Bool := decide (ps.length ≤ 12) && risesB 119 0 ps
theorem rises_drop {hi lo : Int} {xs : List Int} {k : Nat} {x : Int} (h : xs[k]? = some x) : risesB hi lo (xs.drop k) = (inR x lo hi && risesB hi (x + 1) (xs.drop (k + 1))) := by
  obtain ⟨h1, rfl⟩ := List.getElem?_eq_some_iff.1 h
  rw [List.drop_eq_getElem_cons h1]
  rfl
theorem rises_end {hi lo : Int} {xs : List Int} {k : Nat} (h : xs.length ≤ k) : risesB hi lo (xs.drop k) = true := by
  rw [List.drop_of_length_le h]
  rfl
theorem in8_spec {n lo hi : Int} {v : Bool} (h : inR n lo hi = v) (w : World) :
    Calls Try.prog 43 #[.int .i64 n, .int .i64 lo, .int .i64 hi] w fun e w' => e = .returned (.bool v) ∧ w = w' := by
  by_cases h1 : lo ≤ n
  · have hres : Hid (v = decide (n ≤ hi)) := Lib.hid (by rw [← h]; simp [inR, h1])
    clear h
    go_enter Try.func43, Try.ntmps43
    go_wp2
    go_ret
    exact ⟨ret_bo hres.out.symm, rfl⟩
  · have hres : Hid (v = false) := Lib.hid (by rw [← h]; simp [inR, h1])
    clear h
    go_enter Try.func43, Try.ntmps43
    go_wp2
    go_ret
    exact ⟨ret_bo hres.out.symm, rfl⟩
theorem in8_impl {n lo hi : Int} {v : Bool} (h : inR n lo hi = v) (w : World) :
    Calls Try.prog 18 #[.int .i64 n, .int .i64 lo, .int .i64 hi] w fun e w' => e = .returned (.bool v) ∧ w = w' := by
  by_cases h1 : lo ≤ n
  · have hres : Hid (v = decide (n ≤ hi)) := Lib.hid (by rw [← h]; simp [inR, h1])
    clear h
    go_enter Try.func18, Try.ntmps18
    go_wp2
    go_ret
    exact ⟨ret_bo hres.out.symm, rfl⟩
  · have hres : Hid (v = false) := Lib.hid (by rw [← h]; simp [inR, h1])
    clear h
    go_enter Try.func18, Try.ntmps18
    go_wp2
    go_ret
    exact ⟨ret_bo hres.out.symm, rfl⟩
set_option maxHeartbeats 1600000 in
theorem rises_spec (A : Option Addr) (n c : Nat) (lo hi : Int) (xs : List Int) {v : Bool} (hv : risesB hi lo xs = v) (w : World) (h : Ints w A n xs) (hn : n ≤ 1048576) :
    Calls Try.prog 33 #[.slice A n c, .int .i64 lo, .int .i64 hi] w fun e w' => e = .returned (.bool v) ∧ Below w.heap.size w w' := by
  have hv0 := Lib.hid hv
  have hl := Lib.hid h.1
  clear hv
  go_enter Try.func33, Try.ntmps33
  go_wp2
  go_loopw [7] (fun i wr => ∃ (k : Nat) (l : Int), k ≤ n ∧ i = .int .i64 k ∧ Below w.heap.size w wr ∧ (k = 0 → l = lo) ∧ (∀ y, 0 < k → xs[k - 1]? = some y → l = y + 1 ∧ lo ≤ y) ∧ risesB hi lo xs = risesB hi l (xs.drop k)) (fun i _ => n - (intOf i).toNat)
  case atStart => exact ⟨0, lo, by omega, rfl, Below.refl _ _, fun _ => rfl, fun y h => absurd h (by omega), rfl⟩
  case round =>
    obtain ⟨k, l, hk, rfl, hbw, hl0, hl1, he⟩ := hrel
    replace he := Lib.hid he
    replace hl0 := Lib.hid hl0
    replace hl1 := Lib.hid hl1
    by_cases hlt : k < n
    · obtain ⟨b, off, x, rfl, hb, hx, c0⟩ := int_at (h.below hbw) hlt
      have hst := Lib.hid (rises_drop (hi := hi) (lo := l) hx.out)
      have hk0 : (0 : Int) ≤ (k : Int) := Int.natCast_nonneg _
      have hk1 : (k : Int) < (n : Int) := by omega
      cases h1 : inR x lo hi with
      | false =>
        have hr : Hid (v = false) := Lib.hid (by
          have : inR x l hi = false := by
            by_cases hk00 : k = 0
            · rw [hl0.out hk00]; exact h1
            · obtain ⟨y, hy⟩ : ∃ y, xs[k - 1]? = some y := ⟨_, List.getElem?_eq_getElem (by rw [hl.out]; omega)⟩
              obtain ⟨e1, e2⟩ := hl1.out y (by omega) hy
              cases hq : inR x l hi with
              | false => rfl
              | true => have := inR_iff.1 hq; rw [inR_iff.2 ⟨by omega, this.2⟩] at h1; cases h1
          rw [← hv0.out, he.out, hst.out, this]; rfl)
        have hj := Lib.hid (fun W => in8_spec h1 W)
        clear h1
        go_wp2_with fail
        go_quiet ((go_at_call 43; refine quiet_l (hj.out _)))
        go_wp2
        go_ret
        exact ⟨ret_bo hr.out.symm, below_drewN hbw _⟩
      | true =>
        have hj := Lib.hid (fun W => in8_spec h1 W)
        have hx1 := inR_iff.1 h1
        by_cases hk00 : k = 0
        · have hkz : decide (0 < k) = false := decide_eq_false (by omega)
          have hnx : Hid (risesB hi lo xs = risesB hi (x + 1) (xs.drop (k + 1))) := Lib.hid (by rw [he.out, hst.out, hl0.out hk00, h1]; rfl)
          replace hx1 := Lib.hid hx1
          clear h1 hst hk00
          go_wp2_with fail
          go_quiet ((go_at_call 43; refine quiet_l (hj.out _)))
          go_wp2
          go_roundw
          case rel => exact ⟨k + 1, x + 1, by omega, by go_num, below_drewN hbw _, fun h => absurd h (by omega), fun y _ hy => by have := hx.out; simp only [Nat.add_sub_cancel] at hy; rw [this] at hy; cases hy; exact ⟨rfl, hx1.out.1⟩, hnx.out⟩
          case measure => simp [intOf]; omega
        · obtain ⟨b', off', y, e', hb', hy, c1⟩ := int_at (k := k - 1) (h.below hbw) (by omega)
          cases e'
          obtain ⟨e1, e2⟩ := hl1.out y (by omega) hy.out
          have hkp : decide (0 < k) = true := decide_eq_true (by omega)
          have hk2 : (0 : Int) ≤ (k : Int) - 1 := by omega
          have hk3 : (k : Int) - 1 < (n : Int) := by omega
          have hwr : IntKind.i64.wrap ((k : Int) - 1) = (k : Int) - 1 := IntWalk.i64_in _ (by omega)
          have r4 : ((k : Int) - 1).toNat = k - 1 := by omega
          replace hx1 := Lib.hid hx1
          by_cases hyx : x ≤ y
          · have hr : Hid (v = false) := Lib.hid (by
              have : inR x l hi = false := by simp [inR, e1]; omega
              rw [← hv0.out, he.out, hst.out, this]; rfl)
            clear h1 hst e1 e2
            go_wp2_with fail
            go_quiet ((go_at_call 43; refine quiet_l (hj.out _)))
            go_wp2
            go_ret
            exact ⟨ret_bo hr.out.symm, below_drewN hbw _⟩
          · have hnx : Hid (risesB hi lo xs = risesB hi (x + 1) (xs.drop (k + 1))) := Lib.hid (by
              have : inR x l hi = true := inR_iff.2 ⟨by omega, hx1.out.2⟩
              rw [he.out, hst.out, this]; rfl)
            clear h1 hst e1 e2
            go_wp2_with fail
            go_quiet ((go_at_call 43; refine quiet_l (hj.out _)))
            go_wp2
            go_roundw
            case rel => exact ⟨k + 1, x + 1, by omega, by go_num, below_drewN hbw _, fun h => absurd h (by omega), fun z _ hz => by have := hx.out; simp only [Nat.add_sub_cancel] at hz; rw [this] at hz; cases hz; exact ⟨rfl, hx1.out.1⟩, hnx.out⟩
            case measure => simp [intOf]; omega
    · obtain rfl : k = n := by omega
      have hr : Hid (v = true) := Lib.hid (by rw [← hv0.out, he.out, rises_end (by rw [hl.out]; omega)])
      go_wp2
      go_ret
      exact ⟨ret_bo hr.out.symm, hbw⟩
set_option maxHeartbeats 800000 in
theorem incr_impl (A : Option Addr) (n c : Nat) (lo0 hi : Int) (ps : List Int) {v : Bool} (hv0 : risesB hi lo0 ps = v) (hhi : hi ≤ 1000000000) (hlo : -1000000000 ≤ lo0) (w : World) (h : Ints w A n ps) (hn : n ≤ 1048576) :
    Calls Try.prog 32 #[.slice A n c, .int .i64 lo0, .int .i64 hi] w fun e w' => e = .returned (.bool v) ∧ w = w' := by
  have hl := Lib.hid h.1
  replace hv0 := Lib.hid hv0
  go_enter Try.func32, Try.ntmps32
  go_wp2
  go_loopw [7, 13] (fun l i wr => ∃ (k : Nat) (lo : Int), k ≤ n ∧ i = .int .i64 k ∧ l = .int .i64 lo ∧ w = wr ∧ -1000000000 ≤ lo ∧ risesB hi lo0 ps = risesB hi lo (ps.drop k)) (fun _ i _ => n - (intOf i).toNat)
  case atStart => exact ⟨0, lo0, by omega, rfl, rfl, rfl, by omega, rfl⟩
  case round =>
    obtain ⟨k, lo, hk, rfl, rfl, rfl, hlo1, he⟩ := hrel
    replace he := Lib.hid he
    by_cases hlt : k < n
    · obtain ⟨b, off, x, rfl, hb, hx, c0⟩ := int_at h hlt
      have hst := Lib.hid (rises_drop (hi := hi) (lo := lo) hx.out)
      have hk0 : (0 : Int) ≤ (k : Int) := Int.natCast_nonneg _
      have hk1 : (k : Int) < (n : Int) := by omega
      cases h1 : inR x lo hi with
      | false =>
        have hr : Hid (v = false) := Lib.hid (by rw [← hv0.out, he.out, hst.out, h1]; rfl)
        have hj := Lib.hid (fun W => in8_impl h1 W)
        clear h1
        go_wp2_with fail
        refine (hj.out _).mono ?_
        rintro e w1 ⟨rfl, rfl⟩
        go_wp2
        go_ret
        exact ⟨ret_bo hr.out.symm, rfl⟩
      | true =>
        have hnx : Hid (risesB hi lo0 ps = risesB hi (x + 1) (ps.drop (k + 1))) := Lib.hid (by rw [he.out, hst.out, h1]; rfl)
        have hj := Lib.hid (fun W => in8_impl h1 W)
        obtain ⟨x0, x1⟩ := inR_iff.1 h1
        have hgx : Hid (IntKind.i64.wrap (x + 1) = x + 1) := Lib.hid (IntWalk.i64_in _ (by omega))
        clear h1
        go_wp2_with fail
        refine (hj.out _).mono ?_
        rintro e w1 ⟨rfl, rfl⟩
        go_wp2
        go_roundw
        case rel => exact ⟨k + 1, x + 1, by omega, by go_num, (by first | rfl | rw [hgx.out]), by trivial, by omega, hnx.out⟩
        case measure => simp [intOf]; omega
    · obtain rfl : k = n := by omega
      have hr : Hid (v = true) := Lib.hid (by rw [← hv0.out, he.out, rises_end (by rw [hl.out]; omega)])
      go_wp2
      go_ret
      exact ⟨ret_bo hr.out.symm, rfl⟩
end Go.Proofs.Ytijelimpkcnbjaa
