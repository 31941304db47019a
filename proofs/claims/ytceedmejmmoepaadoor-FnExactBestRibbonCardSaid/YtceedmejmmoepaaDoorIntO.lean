/- Slices of Int64 that the law makes, marks and looks at again. -/
import Derived.Test.YtceedmejmmoepaaDoorIntS
import Derived.Test.YtceedmejmmoepaaDoorOwn0
namespace Go.Proofs.YtceedmejmmoepaaDoor
open Go.RowKit Go.ChangeShapes Go.WideShapes Go.Deep
set_option linter.unusedVariables false
set_option linter.unusedSimpArgs false

abbrev OInts (w : World) (base : Nat) (A : Option Addr) (n : Nat) (xs : List Int) : Prop := ORow 2 1 intC w base A n xs
/-- The marks: element i of those from k on. -/
def markInt (k : Int) : Int := k

set_option maxHeartbeats 800000 in
theorem toIntS_own (A : Option Addr) (n c : Nat) (ps : List Int) (w : World) (h : Ints w A n ps) (hn : n ≤ 1048576) :
    Calls Tryd.prog 15 #[.slice A n c] w fun e w' => ∃ g, e = .returned (.slice (some ⟨g, 0, none⟩) n n) ∧ OInts w' w.heap.size (some ⟨g, 0, none⟩) n ps ∧ Below w.heap.size w w' := by
  obtain ⟨i0, hi, hz0, hz1, hz2⟩ := info_parts Tryd.infoI64
  have hmk := fun W => run_make_many (P := Tryd.prog) 32 2 i0 _ Tryd.underlying32 hi hz0 .i64 .i64 n (by rw [hz2]; omega) (by omega) W
  rw [hz1] at hmk
  go_enter Tryd.func15, Tryd.ntmps15
  go_wp2
  go_loopw [4] (fun i wr => ∃ k : Nat, k ≤ n ∧ i = .int .i64 k ∧ Below w.heap.size w wr ∧ Filled 1 intC wr w.heap.size 2 (n) ps k) (fun i _ => n - (intOf i).toNat)
  case atStart => exact ⟨0, by omega, rfl, (Below.refl _ w).alloc (Nat.le_refl _) _, .start _ (made_row _ _ _ _)⟩
  case round =>
    obtain ⟨k, hk, rfl, hbw, hF⟩ := hrel
    by_cases hlt : k < n
    · obtain ⟨b, off, x, rfl, hb, hx, c0⟩ := int_at (h.below hbw) hlt
      obtain ⟨f, hrow1⟩ := hF.row
      have d0 := hrow1.cell (i := k) (by omega)
      have e0 := hrow1.frozen k
      have hstep := Lib.hid (hF.step hx.out (fun _ => rfl))
      simp only [intC, putRow, Nat.mul_one] at hstep
      have hbw1 := hbw.setCell (p := ⟨w.heap.size, k, none⟩) (Nat.le_refl _) (.int .i64 x)
      go_wp2
      go_roundw
      case rel => exact ⟨k + 1, by omega, by go_num, hbw1, hstep.out⟩
      case measure => simp [intOf]; omega
    · obtain rfl : k = n := by omega
      have hres := Lib.hid (ORow.of_filled (show Filled 1 intC wr w.heap.size 2 (k * 1) ps k by simpa using hF) h.1 (Nat.le_refl _) (fun _ => rfl))
      go_wp2
      go_ret
      exact ⟨_, rfl, hres.out, hbw⟩


theorem markInt_cells (k : Int) : intC (markInt k) = [.int .i64 (k)] := rfl
end Go.Proofs.YtceedmejmmoepaaDoor
