/- Slices of Ribbon that the law makes, marks and looks at again. -/
import Derived.Test.YtceedmejmmoepaaDoorRibbonS
import Derived.Test.YtceedmejmmoepaaDoorOwn0
namespace Go.Proofs.YtceedmejmmoepaaDoor
open Go.RowKit Go.ChangeShapes Go.WideShapes Go.Deep
set_option linter.unusedVariables false
set_option linter.unusedSimpArgs false

abbrev ORibbons (w : World) (base : Nat) (A : Option Addr) (n : Nat) (xs : List RibbonD) : Prop := ORow 26 3 RibbonD.cells w base A n xs
/-- The marks: element i of those from k on. -/
def markRibbon (k : Int) : RibbonD := ⟨k, k + 1, k + 2⟩

set_option maxHeartbeats 800000 in
theorem toRibbonS_own (A : Option Addr) (n c : Nat) (ps : List RibbonD) (w : World) (h : Ribbons w A n ps) (hn : n ≤ 1048576) :
    Calls Tryd.prog 14 #[.slice A n c] w fun e w' => ∃ g, e = .returned (.slice (some ⟨g, 0, none⟩) n n) ∧ ORibbons w' w.heap.size (some ⟨g, 0, none⟩) n ps ∧ Below w.heap.size w w' := by
  obtain ⟨i0, hi, hz0, hz1, hz2⟩ := info_parts Tryd.infoRibbon
  have hmk := fun W => run_make_many (P := Tryd.prog) 36 26 i0 _ Tryd.underlying36 hi hz0 .i64 .i64 n (by rw [hz2]; omega) (by omega) W
  rw [hz1] at hmk
  go_enter Tryd.func14, Tryd.ntmps14
  go_wp2
  go_loopw [4] (fun i wr => ∃ k : Nat, k ≤ n ∧ i = .int .i64 k ∧ Below w.heap.size w wr ∧ Filled 3 RibbonD.cells wr w.heap.size 26 (n * 3) ps k) (fun i _ => n - (intOf i).toNat)
  case atStart => exact ⟨0, by omega, rfl, (Below.refl _ w).alloc (Nat.le_refl _) _, .start _ (made_row _ _ _ _)⟩
  case round =>
    obtain ⟨k, hk, rfl, hbw, hF⟩ := hrel
    by_cases hlt : k < n
    · obtain ⟨b, off, x, rfl, hb, hx, c0, c1, c2⟩ := ribbon_at (h.below hbw) hlt
      go_wp2_with (go_at_call 8; refine (toRibbon_any x _).mono ?_)
      rintro e w1 ⟨rfl, hb1⟩
      have hF1 := hF.below hb1 hF.lt
      obtain ⟨f, hrow1⟩ := hF1.row
      have d0 := hrow1.cell (i := k * 3) (by omega)
      have e0 := hrow1.frozen (k * 3)
      have d1 := hrow1.cell (i := k * 3 + 1) (by omega)
      have e1 := hrow1.frozen (k * 3 + 1)
      have d2 := hrow1.cell (i := k * 3 + 2) (by omega)
      have e2 := hrow1.frozen (k * 3 + 2)
      have hbw1 := hbw.trans (hb1.mono hbw.size)
      go_wp2
      go_roundw
      case rel => exact ⟨k + 1, by omega, by go_num, putRow_below (Nat.le_refl _) x.cells w1 (k * 3) hbw1, hF1.step hx.out (fun _ => rfl)⟩
      case measure => simp [intOf]; omega
    · obtain rfl : k = n := by omega
      have hres := Lib.hid (ORow.of_filled (hF) h.1 (Nat.le_refl _) (fun _ => rfl))
      go_wp2
      go_ret
      exact ⟨_, rfl, hres.out, hbw⟩


theorem markRibbon_cells (k : Int) : RibbonD.cells (markRibbon k) = [.int .i64 (k), .int .i64 (k + 1), .int .i64 (k + 2)] := rfl
end Go.Proofs.YtceedmejmmoepaaDoor
