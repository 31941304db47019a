/- Slices of Accent that the law makes, marks and looks at again. -/
import Derived.Test.YtndodlfmjdgpcaaAccentS
import Derived.Test.YtndodlfmjdgpcaaOwn0
import Derived.Test.YtndodlfmjdgpcaaMarkT
namespace Go.Proofs.Ytndodlfmjdgpcaa
open Go.RowKit Go.ChangeShapes Go.WideShapes Go.Deep
set_option linter.unusedVariables false
set_option linter.unusedSimpArgs false

abbrev OAccents (w : World) (base : Nat) (A : Option Addr) (n : Nat) (xs : List AccentD) : Prop := ORow 119 3 AccentD.cells w base A n xs
/-- The marks: element i of those from k on. -/
def markAccent (k : Int) : AccentD := ⟨markT (k), markT (k + 1), markT (k + 2)⟩

set_option maxHeartbeats 800000 in
theorem toAccentS_own (A : Option Addr) (n c : Nat) (ps : List AccentD) (w : World) (h : Accents w A n ps) (hn : n ≤ 1048576) :
    Calls Try.prog 39 #[.slice A n c] w fun e w' => ∃ g, e = .returned (.slice (some ⟨g, 0, none⟩) n n) ∧ OAccents w' w.heap.size (some ⟨g, 0, none⟩) n ps ∧ Below w.heap.size w w' := by
  obtain ⟨i0, hi, hz0, hz1, hz2⟩ := info_parts Try.infoAccent
  have hmk := fun W => run_make_many (P := Try.prog) 42 119 i0 _ Try.underlying42 hi hz0 .i64 .i64 n (by rw [hz2]; omega) (by omega) W
  rw [hz1] at hmk
  go_enter Try.func39, Try.ntmps39
  go_wp2
  go_loopw [4] (fun i wr => ∃ k : Nat, k ≤ n ∧ i = .int .i64 k ∧ Below w.heap.size w wr ∧ Filled 3 AccentD.cells wr w.heap.size 119 (n * 3) ps k) (fun i _ => n - (intOf i).toNat)
  case atStart => exact ⟨0, by omega, rfl, (Below.refl _ w).alloc (Nat.le_refl _) _, .start _ (made_row _ _ _ _)⟩
  case round =>
    obtain ⟨k, hk, rfl, hbw, hF⟩ := hrel
    by_cases hlt : k < n
    · obtain ⟨b, off, x, rfl, hb, hx, c0, c1, c2⟩ := accent_at (h.below hbw) hlt
      go_wp2_with (go_at_call 88; refine (toAccent_any x _).mono ?_)
      rintro e w1 ⟨rfl, hb1⟩
      have hF1 := hF.below hb1 hF.lt
      obtain ⟨f, hrow1⟩ := hF1.row
      have d0 := hrow1.cell (i := k * 3) (by omega)
      have e0 := hrow1.frozen (k * 3)
      have d1 := hrow1.cell (i := k * 3 + 1) (by omega)
      have e1 := hrow1.frozen (k * 3 + 1)
      have d2 := hrow1.cell (i := k * 3 + 2) (by omega)
      have e2 := hrow1.frozen (k * 3 + 2)
      have hbw1 := hbw.trans (hb1.mono hbw.size)
      go_wp2
      go_roundw
      case rel => exact ⟨k + 1, by omega, by go_num, putRow_below (Nat.le_refl _) x.cells w1 (k * 3) hbw1, hF1.step hx.out (fun _ => rfl)⟩
      case measure => simp [intOf]; omega
    · obtain rfl : k = n := by omega
      have hres := Lib.hid (ORow.of_filled (hF) h.1 (Nat.le_refl _) (fun _ => rfl))
      go_wp2
      go_ret
      exact ⟨_, rfl, hres.out, hbw⟩

set_option maxRecDepth 100000 in
set_option maxHeartbeats 1600000 in
theorem markAccentS_any (A : Option Addr) (n c : Nat) (k : Int) (xs : List AccentD) (base : Nat) (w : World) (h : OAccents w base A n xs) (hn : n ≤ 1048576) (hk0 : 1 ≤ k) (hk1 : k ≤ 1099511627776) :
    Calls Try.prog 44 #[.slice A n c, .int .i64 k] w fun e w' => e = .returned (.int .i64 (k + 3 * (n : Int))) ∧ True ∧ w.grownBy w' (A.map (·.block)) := by
  by_cases h0 : n = 0
  · subst h0
    clear h
    go_enter Try.func44, Try.ntmps44
    go_wp2
    go_loopw [1, 5] (fun kv i wr => i = .int .i64 0 ∧ kv = .int .i64 k ∧ wr = w) (fun _ i _ => 0)
    case atStart => exact ⟨rfl, rfl, rfl⟩
    case round =>
      obtain ⟨rfl, rfl, rfl⟩ := hrel
      go_wp2
      go_ret
      exact ⟨by simp, trivial, grown_refl _ _⟩
  · obtain ⟨hl, ⟨rfl, hz⟩ | ⟨g, m, f, rfl, hb, hr, hm, hf⟩⟩ := h
    · exact absurd hz h0
    · clear hf hl
      go_enter Try.func44, Try.ntmps44
      go_wp2
      go_loopw [1, 5] (fun kv i wr => ∃ j : Nat, j ≤ n ∧ i = .int .i64 j ∧ kv = .int .i64 (k + 3 * (j : Int)) ∧ w.grownBy wr (some g) ∧ ∃ f, wr.rowIs g 119 m f) (fun _ i _ => n - (intOf i).toNat)
      case atStart => exact ⟨0, by omega, rfl, by simp, grown_refl _ _, f, hr⟩
      case round =>
        obtain ⟨j, hj, rfl, rfl, hgr, f', hrow⟩ := hrel
        by_cases hlt : j < n
        · have hgb := hrow.lt
          go_wp2_with fail
          refine (markText_int (k + 3 * (j : Int)) _ (by omega) (by omega)).mono ?_
          rintro e w1 ⟨rfl, hb1⟩
          have r1 := (hrow).of_block (hb1.block g (by first | exact (hrow).lt | (simp; exact hgb)))
          have g1 := Lib.hid (grown_trans (hgr) (grown_below hb1 (some g)))
          have hgb1 := r1.lt
          have d0 := r1.cell (i := j * 3) (by omega)
          have e0 := r1.frozen (j * 3)
          go_wp2_with fail
          refine (markText_int (k + 3 * (j : Int) + 1) _ (by omega) (by omega)).mono ?_
          rintro e w2 ⟨rfl, hb2⟩
          have r2 := ((r1).set (j * 3) _).of_block (hb2.block g (by first | exact ((r1).set (j * 3) _).lt | (simp; exact hgb)))
          have g2 := Lib.hid (grown_trans (grown_trans (g1.out) (grown_set (g := g) (o := j * 3) (v := _))) (grown_below hb2 (some g)))
          have hgb2 := r2.lt
          have d1 := r2.cell (i := j * 3 + 1) (by omega)
          have e1 := r2.frozen (j * 3 + 1)
          go_wp2_with fail
          refine (markText_int (k + 3 * (j : Int) + 1 + 1) _ (by omega) (by omega)).mono ?_
          rintro e w3 ⟨rfl, hb3⟩
          have r3 := ((r2).set (j * 3 + 1) _).of_block (hb3.block g (by first | exact ((r2).set (j * 3 + 1) _).lt | (simp; exact hgb)))
          have g3 := Lib.hid (grown_trans (grown_trans (g2.out) (grown_set (g := g) (o := j * 3 + 1) (v := _))) (grown_below hb3 (some g)))
          have hgb3 := r3.lt
          have d2 := r3.cell (i := j * 3 + 2) (by omega)
          have e2 := r3.frozen (j * 3 + 2)
          go_wp2
          go_roundw
          case rel => exact ⟨j + 1, by omega, by go_num, by go_num, grown_trans (g3.out) (grown_set (g := g) (o := j * 3 + 2) (v := _)), _, (r3).set (j * 3 + 2) _⟩
          case measure => simp [intOf]; omega
        · obtain rfl : j = n := by omega
          go_wp2
          go_ret
          exact ⟨rfl, trivial, hgr⟩

end Go.Proofs.Ytndodlfmjdgpcaa
