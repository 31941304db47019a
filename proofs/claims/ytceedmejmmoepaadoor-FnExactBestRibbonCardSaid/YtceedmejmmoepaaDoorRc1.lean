/- Ribbons: the program's codes, spots, uses and shades. -/
import Derived.Test.YtceedmejmmoepaaDoorRc0
import Derived.Test.YtceedmejmmoepaaDoorRb4
namespace Go.Proofs.YtceedmejmmoepaaDoor
open Go.RowKit Go.ChangeShapes Go.WideShapes Go.Deep
set_option linter.unusedVariables false
set_option linter.unusedSimpArgs false

theorem ok14i (r : RibbonD) {v : Bool} (h : rbB r = v) (w : World) :
    Calls Tryd.prog 23 #[.agg #[.int .i64 r.spots, .int .i64 r.ink, .int .i64 r.takes]] w fun e w' => e = .returned (.bool v) ∧ Below w.heap.size w w' := by
  obtain ⟨spots, ink, takes⟩ := r
  cases h0 : inR spots 2 200 with
  | false =>
    have hres : Hid (v = false) := Lib.hid (by rw [← h]; simp [rbB, h0])
    clear h
    replace h0 := Lib.hid h0
    go_enter Tryd.func23, Tryd.ntmps23
    go_wp2_with fail
    refine (in8_impl h0.out _).mono ?_
    rintro e w' ⟨rfl, rfl⟩
    go_wp2
    go_ret
    exact ⟨ret_bo hres.out.symm, below_a1 _ _⟩
  | true =>
    cases h1 : inR ink 1 1000 with
    | false =>
      have hres : Hid (v = false) := Lib.hid (by rw [← h]; simp [rbB, h0, h1])
      clear h
      replace h0 := Lib.hid h0
      replace h1 := Lib.hid h1
      go_enter Tryd.func23, Tryd.ntmps23
      go_wp2_with fail
      refine (in8_impl h0.out _).mono ?_
      rintro e w' ⟨rfl, rfl⟩
      go_wp2_with fail
      refine (in8_impl h1.out _).mono ?_
      rintro e w' ⟨rfl, rfl⟩
      go_wp2
      go_ret
      exact ⟨ret_bo hres.out.symm, below_a1 _ _⟩
    | true =>
      cases h2 : inR takes 1 ink with
      | false =>
        have hres : Hid (v = false) := Lib.hid (by rw [← h]; simp [rbB, h0, h1, h2])
        clear h
        replace h0 := Lib.hid h0
        replace h1 := Lib.hid h1
        replace h2 := Lib.hid h2
        go_enter Tryd.func23, Tryd.ntmps23
        go_wp2_with fail
        refine (in8_impl h0.out _).mono ?_
        rintro e w' ⟨rfl, rfl⟩
        go_wp2_with fail
        refine (in8_impl h1.out _).mono ?_
        rintro e w' ⟨rfl, rfl⟩
        go_wp2_with fail
        refine (in8_impl h2.out _).mono ?_
        rintro e w' ⟨rfl, rfl⟩
        go_wp2
        go_ret
        exact ⟨ret_bo hres.out.symm, below_a1 _ _⟩
      | true =>
        have hres : Hid (v = true) := Lib.hid (by rw [← h]; simp [rbB, h0, h1, h2])
        clear h
        replace h0 := Lib.hid h0
        replace h1 := Lib.hid h1
        replace h2 := Lib.hid h2
        go_enter Tryd.func23, Tryd.ntmps23
        go_wp2_with fail
        refine (in8_impl h0.out _).mono ?_
        rintro e w' ⟨rfl, rfl⟩
        go_wp2_with fail
        refine (in8_impl h1.out _).mono ?_
        rintro e w' ⟨rfl, rfl⟩
        go_wp2_with fail
        refine (in8_impl h2.out _).mono ?_
        rintro e w' ⟨rfl, rfl⟩
        go_wp2
        go_ret
        exact ⟨ret_bo hres.out.symm, below_a1 _ _⟩
theorem vr14_impl (r : RibbonD) (w : World) (hg : r.good) :
    Calls Tryd.prog 23 #[.agg #[.int .i64 r.spots, .int .i64 r.ink, .int .i64 r.takes]] w fun e w' => e = .returned (.bool (rbB r)) ∧ Below w.heap.size w w' := ok14i r rfl w
theorem isu14i {n : Int} {v : Bool} (h : inR n 0 100000 = v) (w : World) :
    Calls Tryd.prog 35 #[.int .i64 n] w fun e w' => e = .returned (.bool v) ∧ w = w' := by
  have hc := Lib.hid (fun W => in8_impl h W)
  clear h
  go_enter Tryd.func35, Tryd.ntmps35
  go_wp2_with fail
  refine (hc.out _).mono ?_
  rintro e w1 ⟨rfl, rfl⟩
  go_wp2
  go_ret
  exact ⟨rfl, rfl⟩
theorem code14i (r : RibbonD) (n : Int) {v : Int} (h : rcC r n = v) (w : World) :
    Calls Tryd.prog 29 #[.agg #[.int .i64 r.spots, .int .i64 r.ink, .int .i64 r.takes], .int .i64 n] w fun e w' => e = .returned (.int .i64 v) ∧ Below w.heap.size w w' := by
  cases h1 : rbB r with
  | false =>
    have hres : Hid (1 = v) := Lib.hid (by rw [← h, rcC, h1]; rfl)
    have hc := Lib.hid (fun W => ok14i r h1 W)
    clear h h1
    obtain ⟨f0, f1, f2⟩ := r
    go_enter Tryd.func29, Tryd.ntmps29
    go_wp2_with fail
    refine (hc.out _).mono ?_
    rintro e w1 ⟨rfl, hb1⟩
    go_wp2
    go_ret
    exact ⟨ret_i64 hres.out, (below_a1 _ _).step hb1⟩
  | true =>
    have hc := Lib.hid (fun W => ok14i r h1 W)
    cases h2 : inR n 0 100000 with
    | false =>
      have hres : Hid (2 = v) := Lib.hid (by rw [← h, rcC, if_pos h1, h2]; rfl)
      clear h h1
      obtain ⟨f0, f1, f2⟩ := r
      replace h2 := Lib.hid h2
      go_enter Tryd.func29, Tryd.ntmps29
      go_wp2_with fail
      refine (hc.out _).mono ?_
      rintro e w1 ⟨rfl, hb1⟩
      go_wp2_with fail
      refine (isu14i h2.out _).mono ?_
      rintro e w2 ⟨rfl, rfl⟩
      go_wp2
      go_ret
      exact ⟨ret_i64 hres.out, (below_a1 _ _).step hb1⟩
    | true =>
      have hres : Hid (0 = v) := Lib.hid (by rw [← h, rcC, if_pos h1, h2]; rfl)
      clear h h1
      obtain ⟨f0, f1, f2⟩ := r
      replace h2 := Lib.hid h2
      go_enter Tryd.func29, Tryd.ntmps29
      go_wp2_with fail
      refine (hc.out _).mono ?_
      rintro e w1 ⟨rfl, hb1⟩
      go_wp2_with fail
      refine (isu14i h2.out _).mono ?_
      rintro e w2 ⟨rfl, rfl⟩
      go_wp2
      go_ret
      exact ⟨ret_i64 hres.out, (below_a1 _ _).step hb1⟩
theorem run14i (r : RibbonD) (hok : rbB r = true) {v : Int} (hv : r.spots - 1 = v) (w : World) :
    Calls Tryd.prog 45 #[.agg #[.int .i64 r.spots, .int .i64 r.ink, .int .i64 r.takes]] w fun e w' => e = .returned (.int .i64 v) ∧ Below w.heap.size w w' := by
  obtain ⟨⟨c0, c1⟩, _⟩ := rbB_iff.1 hok
  have hw1 : IntKind.i64.wrap (r.spots - 1) = v := by rw [IntWalk.i64_in _ (by omega)]; exact hv
  clear hok
  obtain ⟨S, I, K⟩ := r
  simp only at *
  replace hv := Lib.hid hv
  go_enter Tryd.func45, Tryd.ntmps45
  go_wp2
  go_ret
  exact ⟨rfl, below_a1 _ _⟩
theorem round14i (r : RibbonD) (hok : rbB r = true) {v : Int} (hv : turnV r = v) (w : World) :
    Calls Tryd.prog 46 #[.agg #[.int .i64 r.spots, .int .i64 r.ink, .int .i64 r.takes]] w fun e w' => e = .returned (.int .i64 v) ∧ Below w.heap.size w w' := by
  obtain ⟨⟨c0, c1⟩, _⟩ := rbB_iff.1 hok
  have hc := Lib.hid (fun W => run14i r hok rfl W)
  unfold turnV at hv
  obtain ⟨D, hD⟩ : ∃ D, r.spots - 1 = D := ⟨_, rfl⟩
  rw [hD] at hv hc
  have hw1 : IntKind.i64.wrap (2 * D) = v := by rw [IntWalk.i64_in _ (by omega)]; exact hv
  clear hok
  obtain ⟨S, I, K⟩ := r
  simp only at *
  replace hv := Lib.hid hv
  go_enter Tryd.func46, Tryd.ntmps46
  go_wp2_with fail
  refine (hc.out _).mono ?_
  rintro e w1 ⟨rfl, hb1⟩
  go_wp2
  go_ret
  exact ⟨rfl, (below_a1 _ _).step hb1⟩
end Go.Proofs.YtceedmejmmoepaaDoor
