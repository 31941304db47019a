/- Slices of Place that the law makes, marks and looks at again. -/
import Derived.Test.YtmnafnjhioeicaaPlaceS
import Derived.Test.YtmnafnjhioeicaaOwn0
namespace Go.Proofs.Ytmnafnjhioeicaa
open Go.RowKit Go.ChangeShapes Go.WideShapes Go.Deep
set_option linter.unusedVariables false
set_option linter.unusedSimpArgs false

abbrev OPlaces (w : World) (base : Nat) (A : Option Addr) (n : Nat) (xs : List PlaceD) : Prop := ORow 49 3 PlaceD.cells w base A n xs
/-- The marks: element i of those from k on. -/
def markPlace (k : Int) : PlaceD := ⟨k, k + 1, k + 1 + 1⟩

set_option maxHeartbeats 800000 in
theorem toPlaceS_own (A : Option Addr) (n c : Nat) (ps : List PlaceD) (w : World) (h : Places w A n ps) (hn : n ≤ 1048576) :
    Calls Try.prog 13 #[.slice A n c] w fun e w' => ∃ g, e = .returned (.slice (some ⟨g, 0, none⟩) n n) ∧ OPlaces w' w.heap.size (some ⟨g, 0, none⟩) n ps ∧ Below w.heap.size w w' := by
  obtain ⟨i0, hi, hz0, hz1, hz2⟩ := info_parts Try.infoPlace
  have hmk := fun W => run_make_many (P := Try.prog) 25 49 i0 _ Try.underlying25 hi hz0 .i64 .i64 n (by rw [hz2]; omega) (by omega) W
  rw [hz1] at hmk
  go_enter Try.func13, Try.ntmps13
  go_wp2
  go_loopw [4] (fun i wr => ∃ k : Nat, k ≤ n ∧ i = .int .i64 k ∧ Below w.heap.size w wr ∧ Filled 3 PlaceD.cells wr w.heap.size 49 (n * 3) ps k) (fun i _ => n - (intOf i).toNat)
  case atStart => exact ⟨0, by omega, rfl, (Below.refl _ w).alloc (Nat.le_refl _) _, .start _ (made_row _ _ _ _)⟩
  case round =>
    obtain ⟨k, hk, rfl, hbw, hF⟩ := hrel
    by_cases hlt : k < n
    · obtain ⟨b, off, x, rfl, hb, hx, c0, c1, c2⟩ := place_at (h.below hbw) hlt
      go_wp2_with (go_at_call 38; refine (toPlace_any x _).mono ?_)
      rintro e w1 ⟨rfl, hb1⟩
      have hF1 := hF.below hb1 hF.lt
      obtain ⟨f, hrow1⟩ := hF1.row
      have d0 := hrow1.cell (i := k * 3) (by omega)
      have e0 := hrow1.frozen (k * 3)
      have d1 := hrow1.cell (i := k * 3 + 1) (by omega)
      have e1 := hrow1.frozen (k * 3 + 1)
      have d2 := hrow1.cell (i := k * 3 + 2) (by omega)
      have e2 := hrow1.frozen (k * 3 + 2)
      have hbw1 := hbw.trans (hb1.mono hbw.size)
      go_wp2
      go_roundw
      case rel => exact ⟨k + 1, by omega, by go_num, putRow_below (Nat.le_refl _) x.cells w1 (k * 3) hbw1, hF1.step hx.out (fun _ => rfl)⟩
      case measure => simp [intOf]; omega
    · obtain rfl : k = n := by omega
      have hres := Lib.hid (ORow.of_filled (hF) h.1 (Nat.le_refl _) (fun _ => rfl))
      go_wp2
      go_ret
      exact ⟨_, rfl, hres.out, hbw⟩


theorem markPlace_cells (k : Int) : PlaceD.cells (markPlace k) = [.int .i64 (k), .int .i64 (k + 1), .int .i64 (k + 1 + 1)] := rfl
set_option maxHeartbeats 800000 in
theorem markPlaceS_any (A : Option Addr) (n c : Nat) (k : Int) (xs : List PlaceD) (base : Nat) (w : World) (h : OPlaces w base A n xs) (hn : n ≤ 1048576) (hk0 : 0 ≤ k) (hk1 : k ≤ 1099511627776) :
    Calls Try.prog 25 #[.slice A n c, .int .i64 k] w fun e w' => e = .returned (.int .i64 (k + 3 * (n : Int))) ∧ OPlaces w' base A n (marksOf 3 markPlace k n) ∧ w.grownBy w' (A.map (·.block)) := by
  by_cases h0 : n = 0
  · subst h0
    have hres : Hid (OPlaces w base A 0 (marksOf 3 markPlace k 0)) := Lib.hid (by
      have := List.length_eq_zero_iff.1 h.1
      subst this
      exact h)
    clear h
    go_enter Try.func25, Try.ntmps25
    go_wp2
    go_loopw [1, 5] (fun kv i wr => i = .int .i64 0 ∧ kv = .int .i64 k ∧ wr = w) (fun _ i _ => 0)
    case atStart => exact ⟨rfl, rfl, rfl⟩
    case round =>
      obtain ⟨rfl, rfl, rfl⟩ := hrel
      go_wp2
      go_ret
      exact ⟨by simp, hres.out, grown_refl _ _⟩
  · obtain ⟨hl, ⟨rfl, hz⟩ | ⟨g, m, f, rfl, hb, hr, hm, hf⟩⟩ := h
    · exact absurd hz h0
    · clear hf hl
      have hfin : Hid (∀ w', Filled 3 PlaceD.cells w' g 49 m (marksOf 3 markPlace k n) n → OPlaces w' base (some ⟨g, 0, none⟩) n (marksOf 3 markPlace k n)) := Lib.hid fun w' hF => ORow.of_marked hF hm (marksOf_length _ _ _ _) hb (fun _ => rfl)
      go_enter Try.func25, Try.ntmps25
      go_wp2
      go_loopw [1, 5] (fun kv i wr => ∃ j : Nat, j ≤ n ∧ i = .int .i64 j ∧ kv = .int .i64 (k + 3 * (j : Int)) ∧ w.grownBy wr (some g) ∧ Filled 3 PlaceD.cells wr g 49 m (marksOf 3 markPlace k n) j) (fun _ i _ => n - (intOf i).toNat)
      case atStart => exact ⟨0, by omega, rfl, by simp, grown_refl _ _, .start f hr⟩
      case round =>
        obtain ⟨j, hj, rfl, rfl, hgr, hF⟩ := hrel
        by_cases hlt : j < n

        · have hstep := Lib.hid (hF.step (marksOf_at (F := 3) (mk := markPlace) (k := k) hlt) (fun _ => rfl))
          have hgs := Lib.hid (grown_trans hgr (grown_put (g := g) (PlaceD.cells (markPlace (k + 3 * (j : Int)))) wr (j * 3)))
          rw [markPlace_cells] at hstep hgs
          simp only [putRow] at hstep hgs
          obtain ⟨f', hrow⟩ := hF.row
          have d0 := hrow.cell (i := j * 3) (by omega)
          have e0 := hrow.frozen (j * 3)
          have d1 := hrow.cell (i := j * 3 + 1) (by omega)
          have e1 := hrow.frozen (j * 3 + 1)
          have d2 := hrow.cell (i := j * 3 + 2) (by omega)
          have e2 := hrow.frozen (j * 3 + 2)
          have hgb := hrow.lt
          go_wp2
          go_roundw
          case rel => exact ⟨j + 1, by omega, by go_num, by go_num, hgs.out, hstep.out⟩
          case measure => simp [intOf]; omega
        · obtain rfl : j = n := by omega
          have hres := Lib.hid (hfin.out _ hF)
          go_wp2
          go_ret
          exact ⟨rfl, hres.out, hgr⟩

end Go.Proofs.Ytmnafnjhioeicaa
