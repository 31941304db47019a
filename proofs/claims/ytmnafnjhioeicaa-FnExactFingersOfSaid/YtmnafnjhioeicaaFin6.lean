/- Boards: the program's functions: whether a board is valid, what a stroke costs. -/
import Derived.Test.YtmnafnjhioeicaaFin1
import Derived.Deep.RegionHeld3
import Derived.Laws.StructEq
namespace Go.Proofs.Ytmnafnjhioeicaa
open Go.RowKit Go.ChangeShapes Go.WideShapes Go.Deep
set_option linter.unusedVariables false
set_option linter.unusedSimpArgs false

theorem valid_impl (p : PlaceD) {v : Bool} (hv : placeOk p = v) (w : World) :
    Calls Try.prog 40 #[.agg #[.int .i64 p.finger, .int .i64 p.row, .int .i64 p.effort]] w fun e w' => e = .returned (.bool v) ∧ Below w.heap.size w w' := by
  obtain ⟨finger, row, effort⟩ := p
  cases h1 : isIn finger 0 7 with
  | false =>
    have hr : Hid (v = false) := Lib.hid (by rw [← hv, placeOk, h1]; rfl)
    replace h1 := Lib.hid h1
    clear hv
    go_enter Try.func40, Try.ntmps40
    go_wp2_with fail
    refine (in_impl h1.out _).mono ?_
    rintro e w' ⟨rfl, rfl⟩
    go_wp2
    go_ret
    exact ⟨ret_bo hr.out.symm, below_a1 _ _⟩
  | true =>
    cases h2 : isIn row 0 3 with
    | false =>
      have hr : Hid (v = false) := Lib.hid (by rw [← hv, placeOk, h1, h2]; rfl)
      replace h1 := Lib.hid h1
      replace h2 := Lib.hid h2
      clear hv
      go_enter Try.func40, Try.ntmps40
      go_wp2_with fail
      refine (in_impl h1.out _).mono ?_
      rintro e w' ⟨rfl, rfl⟩
      go_wp2_with fail
      refine (in_impl h2.out _).mono ?_
      rintro e w' ⟨rfl, rfl⟩
      go_wp2
      go_ret
      exact ⟨ret_bo hr.out.symm, below_a1 _ _⟩
    | true =>
      have hr : Hid (isIn effort 0 50 = v) := Lib.hid (by rw [← hv, placeOk, h1, h2]; rfl)
      replace h1 := Lib.hid h1
      replace h2 := Lib.hid h2
      clear hv
      go_enter Try.func40, Try.ntmps40
      go_wp2_with fail
      refine (in_impl h1.out _).mono ?_
      rintro e w' ⟨rfl, rfl⟩
      go_wp2_with fail
      refine (in_impl h2.out _).mono ?_
      rintro e w' ⟨rfl, rfl⟩
      go_wp2_with fail
      refine (in_impl hr.out _).mono ?_
      rintro e w' ⟨rfl, rfl⟩
      go_wp2
      go_ret
      exact ⟨rfl, below_a1 _ _⟩
theorem wrongP_clo (p : PlaceD) {v : Bool} (hv : placeOk p = v) (w : World) :
    Calls Try.prog 39 #[.agg #[.int .i64 p.finger, .int .i64 p.row, .int .i64 p.effort]] w fun e w' => e = .returned (.bool (!v)) ∧ Below w.heap.size w w' := by
  have hc := Lib.hid (fun W => valid_impl p hv W)
  clear hv
  obtain ⟨finger, row, effort⟩ := p
  go_enter Try.func39, Try.ntmps39
  go_wp2_with fail
  refine (hc.out _).mono ?_
  rintro e w1 ⟨rfl, hb1⟩
  go_wp2
  go_ret
  exact ⟨rfl, (below_a1 _ _).step hb1⟩
theorem idx_wrongP (A : Option Addr) (n c : Nat) (ps : List PlaceD) {v : Bool} (hv : ps.all placeOk = v) (w : World) (h : Places w A n ps) (hn : n ≤ 1048576) :
    Calls Try.prog 60 #[.slice A n c, .func (.func 39) #[] #[]] w fun e w' => (∃ i : Int, e = .returned (.int .i64 i) ∧ decide (0 ≤ i) = !v) ∧ Below w.heap.size w w' := by
  have hv0 := Lib.hid hv
  have hl := Lib.hid h.1
  clear hv
  go_enter Try.func60, Try.ntmps60
  go_wp2
  go_loopw [8] (fun i wr => ∃ k : Nat, k ≤ n ∧ i = .int .i64 k ∧ Below w.heap.size w wr ∧ ps.all placeOk = (ps.drop k).all placeOk) (fun i _ => n - (intOf i).toNat)
  case atStart => exact ⟨0, by omega, rfl, Below.refl _ _, rfl⟩
  case round =>
    obtain ⟨k, hk, rfl, hbw, he⟩ := hrel
    replace he := Lib.hid he
    by_cases hlt : k < n
    · obtain ⟨b, off, x, rfl, hb, hx, c0, c1, c2⟩ := place_at (h.below hbw) hlt
      have hst := Lib.hid (all_drop (p := placeOk) hx.out)
      have hk0 : (0 : Int) ≤ (k : Int) := Int.natCast_nonneg _
      have hk1 : (k : Int) < (n : Int) := by omega
      cases h1 : placeOk x with
      | false =>
        have hr : Hid (v = false) := Lib.hid (by rw [← hv0.out, he.out, hst.out]; simp only [h1]; rfl)
        have hj := Lib.hid (fun W => wrongP_clo x h1 W)
        clear h1
        go_wp2_with fail
        refine (hj.out _).mono ?_
        rintro e w1 ⟨rfl, hb1⟩
        go_wp2
        go_ret
        exact ⟨⟨_, rfl, by rw [hr.out]; simp⟩, hbw.step hb1⟩
      | true =>
        have hnx : Hid (ps.all placeOk = (ps.drop (k + 1)).all placeOk) := Lib.hid (by rw [he.out, hst.out]; simp only [h1]; rfl)
        have hj := Lib.hid (fun W => wrongP_clo x h1 W)
        clear h1
        go_wp2_with fail
        refine (hj.out _).mono ?_
        rintro e w1 ⟨rfl, hb1⟩
        go_wp2
        go_roundw
        case rel => exact ⟨k + 1, by omega, by go_num, hbw.step hb1, hnx.out⟩
        case measure => simp [intOf]; omega
    · obtain rfl : k = n := by omega
      have hr : Hid (v = true) := Lib.hid (by rw [← hv0.out, he.out, all_end (by rw [hl.out]; omega)])
      go_wp2
      go_ret
      exact ⟨⟨_, rfl, by rw [hr.out]; rfl⟩, hbw⟩
theorem has_wrongP (A : Option Addr) (n c : Nat) (ps : List PlaceD) {v : Bool} (hv : ps.all placeOk = v) (w : World) (h : Places w A n ps) (hn : n ≤ 1048576) :
    Calls Try.prog 42 #[.slice A n c, .func (.func 39) #[] #[]] w fun e w' => e = .returned (.bool (!v)) ∧ Below w.heap.size w w' := by
  have hi := Lib.hid (idx_wrongP A n c ps hv w h hn)
  clear hv h
  go_enter Try.func42, Try.ntmps42
  go_wp2_with fail
  refine (hi.out).mono ?_
  rintro e w1 ⟨⟨i, rfl, hd⟩, hb1⟩
  replace hd := Lib.hid hd
  go_wp2
  go_ret
  exact ⟨ret_bo hd.out, hb1⟩
theorem vb_any (A : Option Addr) (n c : Nat) (ps : List PlaceD) (w : World) (h : Places w A n ps) (hn : n ≤ 1048576) {v : Bool} (hv : boardOk ps = v) :
    Calls Try.prog 14 #[.slice A n c] w fun e w' => e = .returned (.bool v) ∧ Below w.heap.size w w' := by
  have hl := h.1
  cases h0 : isIn (n : Int) 1 6 with
  | false =>
    have hr : Hid (v = false) := Lib.hid (by rw [← hv, boardOk, hl, h0]; simp)
    replace h0 := Lib.hid h0
    clear hv hl
    go_enter Try.func14, Try.ntmps14
    go_wp2_with fail
    refine (in_impl h0.out _).mono ?_
    rintro e w1 ⟨rfl, rfl⟩
    go_wp2
    go_ret
    exact ⟨ret_bo hr.out.symm, Below.refl _ _⟩
  | true =>
    have hr : ps.all placeOk = v := by rw [← hv, boardOk, hl, h0]; simp
    have hc := Lib.hid (has_wrongP A n c ps hr w h hn)
    replace h0 := Lib.hid h0
    clear hv hl hr
    go_enter Try.func14, Try.ntmps14
    go_wp2_with fail
    refine (in_impl h0.out _).mono ?_
    rintro e w1 ⟨rfl, rfl⟩
    go_wp2_with fail
    refine hc.out.mono ?_
    rintro e w1 ⟨rfl, hb1⟩
    go_wp2
    go_ret
    exact ⟨by cases v <;> rfl, hb1⟩
theorem vb_impl (A : Option Addr) (n c : Nat) (ps : List PlaceD) (w : World) (h : Places w A n ps) (hn : n ≤ 1048576) (hg : ∀ x ∈ ps, x.good) :
    Calls Try.prog 14 #[.slice A n c] w fun e w' => e = .returned (.bool (boardOk ps)) ∧ Below w.heap.size w w' := vb_any A n c ps w h hn rfl
theorem right_impl (p : PlaceD) {v : Bool} (hv : decide (4 ≤ p.finger) = v) (w : World) :
    Calls Try.prog 55 #[.agg #[.int .i64 p.finger, .int .i64 p.row, .int .i64 p.effort]] w fun e w' => e = .returned (.bool v) ∧ Below w.heap.size w w' := by
  subst hv
  obtain ⟨finger, row, effort⟩ := p
  go_enter Try.func55, Try.ntmps55
  go_wp2
  go_ret
  exact ⟨rfl, below_a1 _ _⟩
end Go.Proofs.Ytmnafnjhioeicaa
