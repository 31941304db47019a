/- Bars: whether strokes are valid: the model's function and the program's. -/
import Derived.Test.YtndodlfmjdgpcaaBarsB
namespace Go.Proofs.Ytndodlfmjdgpcaa
open Go.RowKit
set_option linter.unusedVariables false
set_option linter.unusedSimpArgs false

/-- Five cells of a block, carried together. -/
def BoxB (w : World) (N : Nat) (b : BasketD) : Prop := w.cell? ⟨N, 0, none⟩ = some (.int .i64 b.bars) ∧ w.cell? ⟨N, 1, none⟩ = some (.int .i64 b.rise) ∧ w.cell? ⟨N, 2, none⟩ = some (.int .i64 b.fall) ∧ w.cell? ⟨N, 3, none⟩ = some (.int .i64 b.clear) ∧ w.cell? ⟨N, 4, none⟩ = some (.int .i64 b.near)
theorem BoxB.step {w w' : World} {N : Nat} {b : BasketD} (h : BoxB w N b) (hb : Below w.heap.size w w') : BoxB w' N b := by
  obtain ⟨c0, c1, c2, c3, c4⟩ := h
  exact ⟨cell_step c0 hb, cell_step c1 hb, cell_step c2 hb, cell_step c3 hb, cell_step c4 hb⟩
theorem BoxB.lt {w : World} {N : Nat} {b : BasketD} (h : BoxB w N b) : N < w.heap.size := World.block_lt_of_cell? w _ h.1
theorem BoxB.new (w : World) (b : BasketD) (t : TypeId) : BoxB (w.alloc (.cells #[.int .i64 b.bars, .int .i64 b.rise, .int .i64 b.fall, .int .i64 b.clear, .int .i64 b.near] t)) w.heap.size b :=
  ⟨cell_new rfl rfl, cell_new rfl rfl, cell_new rfl rfl, cell_new rfl rfl, cell_new rfl rfl⟩

set_option maxRecDepth 100000 in
set_option maxHeartbeats 1600000 in
theorem vs_impl (b : BasketD) (A : Option Addr) (n c : Nat) (xs : List StrokeD) (w : World) (hg : b.good) (h : Strokes w A n xs) (hn : n ≤ 1048576) (hx : ∀ x ∈ xs, x.good) :
    Calls Try.prog 56 #[.agg #[.int .i64 b.bars, .int .i64 b.rise, .int .i64 b.fall, .int .i64 b.clear, .int .i64 b.near], .slice A n c] w fun e w' => e = .returned (.bool (strokesOk b xs)) ∧ Below w.heap.size w w' := by
  generalize hv : strokesOk b xs = v
  cases hok : basketOk b with
  | false =>
    have hres : Hid (v = false) := Lib.hid (by rw [← hv]; simp [strokesOk, hok])
    have hc := fun W => ok_impl b hok W
    replace hc := Lib.hid hc
    clear hv hok
    obtain ⟨bars, rise, fall, clear, near⟩ := b
    go_enter Try.func56, Try.ntmps56
    go_wp2_with fail
    refine (hc.out _).mono ?_
    rintro e w1 ⟨rfl, hb1⟩
    go_wp2
    go_ret
    exact ⟨ret_bo hres.out.symm, (below_a1 _ _).step hb1⟩
  | true =>
    by_cases hlen : (60 : Int) < (n : Int)
    · have hres : Hid (v = false) := Lib.hid (by rw [← hv]; simp [strokesOk, show ¬ xs.length ≤ 60 by rw [h.1]; omega])
      have hc := fun W => ok_impl b hok W
      replace hc := Lib.hid hc
      have g1 : decide ((60 : Int) < (n : Int)) = true := decide_eq_true hlen
      clear hv hok
      obtain ⟨bars, rise, fall, clear, near⟩ := b
      go_enter Try.func56, Try.ntmps56
      go_wp2_with fail
      refine (hc.out _).mono ?_
      rintro e w1 ⟨rfl, hb1⟩
      go_wp2
      go_ret
      exact ⟨ret_bo hres.out.symm, (below_a1 _ _).step hb1⟩
    · have hres : Hid (v = chain (b.bars - 1) 0 xs) := Lib.hid (by rw [← hv]; simp [strokesOk, hok, show xs.length ≤ 60 by rw [h.1]; omega])
      have hc := fun W => ok_impl b hok W
      have hlk := fun m (v : Bool) (hv : isIn m 0 (b.bars - 1) = v) W => lacks_impl b m (v := v) hv hok W
      replace hc := Lib.hid hc
      replace hlk := Lib.hid hlk
      have g1 : decide ((60 : Int) < (n : Int)) = false := decide_eq_false hlen
      clear hv hok
      generalize hhi : b.bars - 1 = hi at *
      replace hhi := Lib.hid hhi
      obtain ⟨bars, rise, fall, clear, near⟩ := b
      have hnew := fun W t => BoxB.new W ⟨bars, rise, fall, clear, near⟩ t
      replace hnew := Lib.hid hnew
      go_enter Try.func56, Try.ntmps56
      go_wp2_with fail
      refine (hc.out _).mono ?_
      rintro e w1 ⟨rfl, hb1⟩
      have hbox := Lib.hid ((hnew.out w _).step hb1)
      have hb0 := (below_a1 _ _).step hb1
      have hS := h.below hb0
      have hl0 := h.1
      replace hb0 := Lib.hid hb0
      clear hb1 hnew hc h
      generalize hN : w.heap.size = N at *
      replace hN := Lib.hid hN
      go_wp2
      go_loopw [5, 18] (fun l i wr => ∃ (k : Nat) (least : Int), k ≤ n ∧ i = .int .i64 k ∧ l = .int .i64 least ∧ Below w1.heap.size w1 wr ∧ chain hi 0 xs = chain hi least (xs.drop k)) (fun _ i _ => n - (intOf i).toNat)
      case atStart => exact ⟨0, 0, by omega, rfl, rfl, Below.refl _ _, rfl⟩
      case round =>
        obtain ⟨k, least, hk, rfl, rfl, hbw, he⟩ := hrel
        replace he := Lib.hid he
        by_cases hlt : k < n
        · obtain ⟨bb, off, s, rfl, hb, hxs, c0, c1⟩ := stroke_at (hS.below hbw) hlt
          obtain ⟨d0, d1, d2, d3, d4⟩ := hbox.out.step hbw
          have hNl := (hbox.out.step hbw).lt
          have hst := Lib.hid (chain_drop (hi := hi) (l := least) hxs.out)
          cases h1 : isIn s.bar 0 hi with
          | false =>
            have hr2 : Hid (v = false) := Lib.hid (by rw [hres.out, he.out, hst.out, h1]; rfl)
            replace h1 := Lib.hid h1
            go_wp2_with fail
            refine (hlk.out s.bar false h1.out _).mono ?_
            rintro e w2 ⟨rfl, hb2⟩
            go_wp2
            go_ret
            obtain rfl := hN.out
            exact ⟨ret_bo hr2.out.symm, hb0.out.step (hbw.step ((below_a1 _ _).step hb2))⟩
          | true =>
            cases h2 : isIn s.tick least 1000000 with
            | false =>
              have hr2 : Hid (v = false) := Lib.hid (by rw [hres.out, he.out, hst.out, h1, h2]; rfl)
              replace h1 := Lib.hid h1
              replace h2 := Lib.hid h2
              go_wp2_with fail
              refine (hlk.out s.bar true h1.out _).mono ?_
              rintro e w2 ⟨rfl, hb2⟩
              have e1 : w2.cell? ⟨wr.heap.size, 1, none⟩ = some (.int .i64 s.tick) := cell_step (cell_new rfl rfl) hb2
              go_wp2_with fail
              refine (in_impl h2.out _).mono ?_
              rintro e w' ⟨rfl, rfl⟩
              go_wp2
              go_ret
              obtain rfl := hN.out
              exact ⟨ret_bo hr2.out.symm, hb0.out.step (hbw.step ((below_a1 _ _).step hb2))⟩
            | true =>
              have hnext : Hid (chain hi 0 xs = chain hi s.tick (xs.drop (k + 1))) := Lib.hid (by rw [he.out, hst.out, h1, h2]; rfl)
              replace h1 := Lib.hid h1
              replace h2 := Lib.hid h2
              go_wp2_with fail
              refine (hlk.out s.bar true h1.out _).mono ?_
              rintro e w2 ⟨rfl, hb2⟩
              have e1 : w2.cell? ⟨wr.heap.size, 1, none⟩ = some (.int .i64 s.tick) := cell_step (cell_new rfl rfl) hb2
              go_wp2_with fail
              refine (in_impl h2.out _).mono ?_
              rintro e w' ⟨rfl, rfl⟩
              go_wp2
              go_roundw
              case rel => exact ⟨k + 1, s.tick, by omega, by go_num, rfl, hbw.step ((below_a1 _ _).step hb2), hnext.out⟩
              case measure => simp [intOf]; omega
        · obtain rfl : k = n := by omega
          have hr2 : Hid (v = true) := Lib.hid (by rw [hres.out, he.out, chain_end hl0])
          go_wp2
          go_ret
          obtain rfl := hN.out
          exact ⟨ret_bo hr2.out.symm, hb0.out.step hbw⟩

theorem in_b {n lo hi : Int} {v : Bool} (h : isIn n lo hi = v) (w : World) : Calls Try.prog 70 #[.int .i64 n, .int .i64 lo, .int .i64 hi] w fun e w' => e = .returned (.bool v) ∧ Below w.heap.size w w' :=
  (in_spec h w).mono fun _ _ ⟨h, e⟩ => ⟨h, e ▸ Below.refl _ _⟩
end Go.Proofs.Ytndodlfmjdgpcaa
