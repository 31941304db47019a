/- Slices of Press that the law makes, marks and looks at again. -/
import Derived.Test.YtndodlfmjdgpcaaPress0
import Derived.Test.YtndodlfmjdgpcaaOwn0
namespace Go.Proofs.Ytndodlfmjdgpcaa
open Go.RowKit Go.ChangeShapes Go.WideShapes Go.Deep
set_option linter.unusedVariables false
set_option linter.unusedSimpArgs false

theorem press_at {w : World} {A : Option Addr} {n k : Nat} {ps : List PressD} (h : Presses w A n ps) (hk : k < n) :
    ∃ b off x, A = some ⟨b, off, none⟩ ∧ b < w.heap.size ∧ Hid (ps[k]? = some x) ∧ w.cell? ⟨b, off + k * 2, none⟩ = some (.int .i64 x.key) ∧ w.cell? ⟨b, off + k * 2 + 1, none⟩ = some (.bool x.shift) := by
  obtain ⟨b, off, x, e, hb, hx, hc⟩ := h.at_ hk
  exact ⟨b, off, x, e, hb, Lib.hid hx, hc 0 _ rfl, hc 1 _ rfl⟩
abbrev OPresses (w : World) (base : Nat) (A : Option Addr) (n : Nat) (xs : List PressD) : Prop := ORow 53 2 PressD.cells w base A n xs
/-- The marks: element i of those from k on. -/
def markPress (k : Int) : PressD := ⟨k, (k + 1) % 3 == 0⟩

set_option maxHeartbeats 800000 in
theorem toPressS_own (A : Option Addr) (n c : Nat) (ps : List PressD) (w : World) (h : Presses w A n ps) (hn : n ≤ 1048576) :
    Calls Try.prog 48 #[.slice A n c] w fun e w' => ∃ g, e = .returned (.slice (some ⟨g, 0, none⟩) n n) ∧ OPresses w' w.heap.size (some ⟨g, 0, none⟩) n ps ∧ Below w.heap.size w w' := by
  obtain ⟨i0, hi, hz0, hz1, hz2⟩ := info_parts Try.infoPress
  have hmk := fun W => run_make_many (P := Try.prog) 43 53 i0 _ Try.underlying43 hi hz0 .i64 .i64 n (by rw [hz2]; omega) (by omega) W
  rw [hz1] at hmk
  go_enter Try.func48, Try.ntmps48
  go_wp2
  go_loopw [4] (fun i wr => ∃ k : Nat, k ≤ n ∧ i = .int .i64 k ∧ Below w.heap.size w wr ∧ Filled 2 PressD.cells wr w.heap.size 53 (n * 2) ps k) (fun i _ => n - (intOf i).toNat)
  case atStart => exact ⟨0, by omega, rfl, (Below.refl _ w).alloc (Nat.le_refl _) _, .start _ (made_row _ _ _ _)⟩
  case round =>
    obtain ⟨k, hk, rfl, hbw, hF⟩ := hrel
    by_cases hlt : k < n
    · obtain ⟨b, off, x, rfl, hb, hx, c0, c1⟩ := press_at (h.below hbw) hlt
      go_wp2_with (go_at_call 92; refine (toPress_any x.key x.shift _).mono ?_)
      rintro e w1 ⟨rfl, hb1⟩
      have hF1 := hF.below hb1 hF.lt
      obtain ⟨f, hrow1⟩ := hF1.row
      have d0 := hrow1.cell (i := k * 2) (by omega)
      have e0 := hrow1.frozen (k * 2)
      have d1 := hrow1.cell (i := k * 2 + 1) (by omega)
      have e1 := hrow1.frozen (k * 2 + 1)
      have hbw1 := hbw.trans (hb1.mono hbw.size)
      go_wp2
      go_roundw
      case rel => exact ⟨k + 1, by omega, by go_num, putRow_below (Nat.le_refl _) x.cells w1 (k * 2) hbw1, hF1.step hx.out (fun _ => rfl)⟩
      case measure => simp [intOf]; omega
    · obtain rfl : k = n := by omega
      have hres := Lib.hid (ORow.of_filled (hF) h.1 (Nat.le_refl _) (fun _ => rfl))
      go_wp2
      go_ret
      exact ⟨_, rfl, hres.out, hbw⟩


theorem markPress_cells (k : Int) : PressD.cells (markPress k) = [.int .i64 (k), .bool ((k + 1) % 3 == 0)] := rfl
set_option maxHeartbeats 800000 in
theorem markPressS_any (A : Option Addr) (n c : Nat) (k : Int) (xs : List PressD) (base : Nat) (w : World) (h : OPresses w base A n xs) (hn : n ≤ 1048576) (hk0 : 0 ≤ k) (hk1 : k ≤ 1099511627776) :
    Calls Try.prog 45 #[.slice A n c, .int .i64 k] w fun e w' => e = .returned (.int .i64 (k + 2 * (n : Int))) ∧ OPresses w' base A n (marksOf 2 markPress k n) ∧ w.grownBy w' (A.map (·.block)) := by
  by_cases h0 : n = 0
  · subst h0
    have hres : Hid (OPresses w base A 0 (marksOf 2 markPress k 0)) := Lib.hid (by
      have := List.length_eq_zero_iff.1 h.1
      subst this
      exact h)
    clear h
    go_enter Try.func45, Try.ntmps45
    go_wp2
    go_loopw [1, 5] (fun kv i wr => i = .int .i64 0 ∧ kv = .int .i64 k ∧ wr = w) (fun _ i _ => 0)
    case atStart => exact ⟨rfl, rfl, rfl⟩
    case round =>
      obtain ⟨rfl, rfl, rfl⟩ := hrel
      go_wp2
      go_ret
      exact ⟨by simp, hres.out, grown_refl _ _⟩
  · obtain ⟨hl, ⟨rfl, hz⟩ | ⟨g, m, f, rfl, hb, hr, hm, hf⟩⟩ := h
    · exact absurd hz h0
    · clear hf hl
      have hfin : Hid (∀ w', Filled 2 PressD.cells w' g 53 m (marksOf 2 markPress k n) n → OPresses w' base (some ⟨g, 0, none⟩) n (marksOf 2 markPress k n)) := Lib.hid fun w' hF => ORow.of_marked hF hm (marksOf_length _ _ _ _) hb (fun _ => rfl)
      go_enter Try.func45, Try.ntmps45
      go_wp2
      go_loopw [1, 5] (fun kv i wr => ∃ j : Nat, j ≤ n ∧ i = .int .i64 j ∧ kv = .int .i64 (k + 2 * (j : Int)) ∧ w.grownBy wr (some g) ∧ Filled 2 PressD.cells wr g 53 m (marksOf 2 markPress k n) j) (fun _ i _ => n - (intOf i).toNat)
      case atStart => exact ⟨0, by omega, rfl, by simp, grown_refl _ _, .start f hr⟩
      case round =>
        obtain ⟨j, hj, rfl, rfl, hgr, hF⟩ := hrel
        by_cases hlt : j < n

        · have hstep := Lib.hid (hF.step (marksOf_at (F := 2) (mk := markPress) (k := k) hlt) (fun _ => rfl))
          have hgs := Lib.hid (grown_trans hgr (grown_put (g := g) (PressD.cells (markPress (k + 2 * (j : Int)))) wr (j * 2)))
          rw [markPress_cells] at hstep hgs
          simp only [putRow] at hstep hgs
          obtain ⟨f', hrow⟩ := hF.row
          have d0 := hrow.cell (i := j * 2) (by omega)
          have e0 := hrow.frozen (j * 2)
          have d1 := hrow.cell (i := j * 2 + 1) (by omega)
          have e1 := hrow.frozen (j * 2 + 1)
          have hgb := hrow.lt
          go_wp2
          go_roundw
          case rel => exact ⟨j + 1, by omega, by go_num, by go_num, hgs.out, hstep.out⟩
          case measure => simp [intOf]; omega
        · obtain rfl : j = n := by omega
          have hres := Lib.hid (hfin.out _ hF)
          go_wp2
          go_ret
          exact ⟨rfl, hres.out, hgr⟩

set_option maxHeartbeats 800000 in
theorem heldPressS_any (A : Option Addr) (n c : Nat) (k : Int) (w : World) (h : Presses w A n (marksOf 2 markPress k n)) (hn : n ≤ 1048576) (hk0 : 0 ≤ k) (hk1 : k ≤ 1099511627776) :
    Calls Try.prog 46 #[.slice A n c, .int .i64 k] w fun e w' => e = .returned (.int .i64 (k + 2 * (n : Int))) ∧ Below w.heap.size w w' := by
  go_enter Try.func46, Try.ntmps46
  go_wp2
  go_loopw [1, 5] (fun kv i wr => ∃ j : Nat, j ≤ n ∧ i = .int .i64 j ∧ kv = .int .i64 (k + 2 * (j : Int)) ∧ Below w.heap.size w wr) (fun _ i _ => n - (intOf i).toNat)
  case atStart => exact ⟨0, by omega, rfl, by simp, Below.refl _ _⟩
  case round =>
    obtain ⟨j, hj, rfl, rfl, hbw⟩ := hrel
    by_cases hlt : j < n
    · obtain ⟨b, off, x, rfl, hb, hx, c0, c1⟩ := press_at (h.below hbw) hlt
      have hxe := hx.out
      rw [marksOf_at hlt] at hxe
      cases hxe
      clear hx
      simp only [markPress] at c0 c1
      go_wp2
      go_roundw
      case rel => exact ⟨j + 1, by omega, by go_num, by go_num, hbw⟩
      case measure => simp [intOf]; omega
    · obtain rfl : j = n := by omega
      go_wp2
      go_ret
      exact ⟨rfl, hbw⟩

end Go.Proofs.Ytndodlfmjdgpcaa
