/- Ribbons: the model's codes, spots and turns. -/
import Derived.Test.YtceedmejmmoepaaDoorRb0
import Derived.Test.YtceedmejmmoepaaDoorOwn8
namespace Go.Proofs.YtceedmejmmoepaaDoor
open Go.RowKit Go.ChangeShapes Go.WideShapes Go.Deep
set_option linter.unusedVariables false
set_option linter.unusedSimpArgs false

structure Box3r (g : Nat) (a b c : Value) (w : World) : Prop where
  c0 : w.cell? ⟨g, 0, none⟩ = some a
  c1 : w.cell? ⟨g, 1, none⟩ = some b
  c2 : w.cell? ⟨g, 2, none⟩ = some c
theorem Box3r.new (w : World) (T : TypeId) (a b c : Value) : Box3r w.heap.size a b c (w.alloc (.cells #[a, b, c] T)) := ⟨cell_new (by simp) rfl, cell_new (by simp) rfl, cell_new (by simp) rfl⟩
theorem Box3r.step {g : Nat} {a b c : Value} {w w' : World} (h : Box3r g a b c w) (hb : Below w.heap.size w w') : Box3r g a b c w' := ⟨cell_step h.c0 hb, cell_step h.c1 hb, cell_step h.c2 hb⟩
theorem max14 (a b : Int) {v : Int} (hv : max a b = v) (w : World) : Calls Tryd.prog 44 #[.int .i64 a, .int .i64 b] w fun e w' => e = .returned (.int .i64 v) ∧ w = w' := by
  by_cases h : b < a
  · have hm : Hid (a = v) := Lib.hid (by omega)
    have hd : decide (b < a) = true := decide_eq_true h
    have hd2 : decide (a < b) = false := decide_eq_false (by omega)
    clear hv
    go_enter Tryd.func44, Tryd.ntmps44
    go_wp2
    go_ret
    exact ⟨ret_i64 hm.out, rfl⟩
  · have hm : Hid (b = v) := Lib.hid (by omega)
    have hd : decide (b < a) = false := decide_eq_false h
    by_cases h2 : a < b
    · have hd2 : decide (a < b) = true := decide_eq_true h2
      clear hv
      go_enter Tryd.func44, Tryd.ntmps44
      go_wp2
      go_ret
      exact ⟨ret_i64 hm.out, rfl⟩
    · obtain rfl : a = b := by omega
      have hd2 : decide (a < a) = false := decide_eq_false (by omega)
      clear hv h2 hd hd2 h
      go_enter Tryd.func44, Tryd.ntmps44
      go_wp2
      go_ret
      exact ⟨ret_i64 hm.out, rfl⟩
theorem ok14 (r : RibbonD) {v : Bool} (h : rbB r = v) (w : World) :
    Calls Tryd.prog 31 #[.agg #[.int .i64 r.spots, .int .i64 r.ink, .int .i64 r.takes]] w fun e w' => e = .returned (.bool v) ∧ Below w.heap.size w w' := by
  obtain ⟨spots, ink, takes⟩ := r
  cases h0 : inR spots 2 200 with
  | false =>
    have hres : Hid (v = false) := Lib.hid (by rw [← h]; simp [rbB, h0])
    clear h
    replace h0 := Lib.hid h0
    go_enter Tryd.func31, Tryd.ntmps31
    go_wp2_with fail
    refine (in8_spec h0.out _).mono ?_
    rintro e w' ⟨rfl, rfl⟩
    go_wp2
    go_ret
    exact ⟨ret_bo hres.out.symm, below_a1 _ _⟩
  | true =>
    cases h1 : inR ink 1 1000 with
    | false =>
      have hres : Hid (v = false) := Lib.hid (by rw [← h]; simp [rbB, h0, h1])
      clear h
      replace h0 := Lib.hid h0
      replace h1 := Lib.hid h1
      go_enter Tryd.func31, Tryd.ntmps31
      go_wp2_with fail
      refine (in8_spec h0.out _).mono ?_
      rintro e w' ⟨rfl, rfl⟩
      go_wp2_with fail
      refine (in8_spec h1.out _).mono ?_
      rintro e w' ⟨rfl, rfl⟩
      go_wp2
      go_ret
      exact ⟨ret_bo hres.out.symm, below_a1 _ _⟩
    | true =>
      cases h2 : inR takes 1 ink with
      | false =>
        have hres : Hid (v = false) := Lib.hid (by rw [← h]; simp [rbB, h0, h1, h2])
        clear h
        replace h0 := Lib.hid h0
        replace h1 := Lib.hid h1
        replace h2 := Lib.hid h2
        go_enter Tryd.func31, Tryd.ntmps31
        go_wp2_with fail
        refine (in8_spec h0.out _).mono ?_
        rintro e w' ⟨rfl, rfl⟩
        go_wp2_with fail
        refine (in8_spec h1.out _).mono ?_
        rintro e w' ⟨rfl, rfl⟩
        go_wp2_with fail
        refine (in8_spec h2.out _).mono ?_
        rintro e w' ⟨rfl, rfl⟩
        go_wp2
        go_ret
        exact ⟨ret_bo hres.out.symm, below_a1 _ _⟩
      | true =>
        have hres : Hid (v = true) := Lib.hid (by rw [← h]; simp [rbB, h0, h1, h2])
        clear h
        replace h0 := Lib.hid h0
        replace h1 := Lib.hid h1
        replace h2 := Lib.hid h2
        go_enter Tryd.func31, Tryd.ntmps31
        go_wp2_with fail
        refine (in8_spec h0.out _).mono ?_
        rintro e w' ⟨rfl, rfl⟩
        go_wp2_with fail
        refine (in8_spec h1.out _).mono ?_
        rintro e w' ⟨rfl, rfl⟩
        go_wp2_with fail
        refine (in8_spec h2.out _).mono ?_
        rintro e w' ⟨rfl, rfl⟩
        go_wp2
        go_ret
        exact ⟨ret_bo hres.out.symm, below_a1 _ _⟩
theorem code14 (r : RibbonD) (n : Int) {v : Int} (h : rcC r n = v) (w : World) :
    Calls Tryd.prog 27 #[.agg #[.int .i64 r.spots, .int .i64 r.ink, .int .i64 r.takes], .int .i64 n] w fun e w' => e = .returned (.int .i64 v) ∧ Below w.heap.size w w' := by
  cases h1 : rbB r with
  | false =>
    have hres : Hid (1 = v) := Lib.hid (by rw [← h, rcC, h1]; rfl)
    have hc := Lib.hid (fun W => ok14 r h1 W)
    clear h h1
    obtain ⟨f0, f1, f2⟩ := r
    go_enter Tryd.func27, Tryd.ntmps27
    go_wp2_with fail
    refine (hc.out _).mono ?_
    rintro e w1 ⟨rfl, hb1⟩
    go_wp2
    go_ret
    exact ⟨ret_i64 hres.out, (below_a1 _ _).step hb1⟩
  | true =>
    have hc := Lib.hid (fun W => ok14 r h1 W)
    cases h2 : inR n 0 100000 with
    | false =>
      have hres : Hid (2 = v) := Lib.hid (by rw [← h, rcC, if_pos h1, h2]; rfl)
      clear h h1
      obtain ⟨f0, f1, f2⟩ := r
      try simp only at h2
      replace h2 := Lib.hid h2
      go_enter Tryd.func27, Tryd.ntmps27
      go_wp2_with fail
      refine (hc.out _).mono ?_
      rintro e w1 ⟨rfl, hb1⟩
      obtain ⟨q0, q1, q2⟩ := (Box3r.new w _ (.int .i64 f0) (.int .i64 f1) (.int .i64 f2)).step hb1
      go_wp2_with fail
      refine (in8_spec h2.out _).mono ?_
      rintro e w2 ⟨rfl, rfl⟩
      go_wp2
      go_ret
      exact ⟨ret_i64 hres.out, (below_a1 _ _).step hb1⟩
    | true =>
      have hres : Hid (0 = v) := Lib.hid (by rw [← h, rcC, if_pos h1, h2]; rfl)
      clear h h1
      obtain ⟨f0, f1, f2⟩ := r
      try simp only at h2
      replace h2 := Lib.hid h2
      go_enter Tryd.func27, Tryd.ntmps27
      go_wp2_with fail
      refine (hc.out _).mono ?_
      rintro e w1 ⟨rfl, hb1⟩
      obtain ⟨q0, q1, q2⟩ := (Box3r.new w _ (.int .i64 f0) (.int .i64 f1) (.int .i64 f2)).step hb1
      go_wp2_with fail
      refine (in8_spec h2.out _).mono ?_
      rintro e w2 ⟨rfl, rfl⟩
      go_wp2
      go_ret
      exact ⟨ret_i64 hres.out, (below_a1 _ _).step hb1⟩
theorem least14 (r : RibbonD) (n : Int) {v : Int} (h : rlC r n = v) (w : World) :
    Calls Tryd.prog 21 #[.agg #[.int .i64 r.spots, .int .i64 r.ink, .int .i64 r.takes], .int .i64 n] w fun e w' => e = .returned (.int .i64 v) ∧ Below w.heap.size w w' := by
  cases h1 : rbB r with
  | false =>
    have hres : Hid (1 = v) := Lib.hid (by rw [← h, rlC, h1]; rfl)
    have hc := Lib.hid (fun W => ok14 r h1 W)
    clear h h1
    obtain ⟨f0, f1, f2⟩ := r
    go_enter Tryd.func21, Tryd.ntmps21
    go_wp2_with fail
    refine (hc.out _).mono ?_
    rintro e w1 ⟨rfl, hb1⟩
    go_wp2
    go_ret
    exact ⟨ret_i64 hres.out, (below_a1 _ _).step hb1⟩
  | true =>
    have hc := Lib.hid (fun W => ok14 r h1 W)
    cases h2 : inR n 1 r.ink with
    | false =>
      have hres : Hid (2 = v) := Lib.hid (by rw [← h, rlC, if_pos h1, h2]; rfl)
      clear h h1
      obtain ⟨f0, f1, f2⟩ := r
      try simp only at h2
      replace h2 := Lib.hid h2
      go_enter Tryd.func21, Tryd.ntmps21
      go_wp2_with fail
      refine (hc.out _).mono ?_
      rintro e w1 ⟨rfl, hb1⟩
      obtain ⟨q0, q1, q2⟩ := (Box3r.new w _ (.int .i64 f0) (.int .i64 f1) (.int .i64 f2)).step hb1
      go_wp2_with fail
      refine (in8_spec h2.out _).mono ?_
      rintro e w2 ⟨rfl, rfl⟩
      go_wp2
      go_ret
      exact ⟨ret_i64 hres.out, (below_a1 _ _).step hb1⟩
    | true =>
      have hres : Hid (0 = v) := Lib.hid (by rw [← h, rlC, if_pos h1, h2]; rfl)
      clear h h1
      obtain ⟨f0, f1, f2⟩ := r
      try simp only at h2
      replace h2 := Lib.hid h2
      go_enter Tryd.func21, Tryd.ntmps21
      go_wp2_with fail
      refine (hc.out _).mono ?_
      rintro e w1 ⟨rfl, hb1⟩
      obtain ⟨q0, q1, q2⟩ := (Box3r.new w _ (.int .i64 f0) (.int .i64 f1) (.int .i64 f2)).step hb1
      go_wp2_with fail
      refine (in8_spec h2.out _).mono ?_
      rintro e w2 ⟨rfl, rfl⟩
      go_wp2
      go_ret
      exact ⟨ret_i64 hres.out, (below_a1 _ _).step hb1⟩
theorem spot14 (r : RibbonD) (hok : rbB r = true) (n : Int) (h0 : 0 ≤ n) (h1 : n ≤ 200000) {v : Int} (hv : spotV r n = v) (w : World) :
    Calls Tryd.prog 43 #[.agg #[.int .i64 r.spots, .int .i64 r.ink, .int .i64 r.takes], .int .i64 n] w fun e w' => e = .returned (.int .i64 v) ∧ Below w.heap.size w w' := by
  obtain ⟨a0, a1⟩ := turnV_range hok
  obtain ⟨b0, b1⟩ := atV_range hok h0
  obtain ⟨⟨c0, c1⟩, _⟩ := rbB_iff.1 hok
  unfold spotV at hv
  unfold turnV at *
  obtain ⟨S, I, K⟩ := r
  simp only at *
  clear hok
  have hw1 : IntKind.i64.wrap (S - 1) = S - 1 := IntWalk.i64_in _ (by omega)
  have hw2 : IntKind.i64.wrap (2 * (S - 1)) = 2 * (S - 1) := IntWalk.i64_in _ (by omega)
  have hz : (2 * (S - 1) == 0) = false := beq_eq_false_iff_ne.2 (by omega)
  have hz2 : ¬ 2 * (S - 1) = 0 := by omega
  generalize hT : 2 * (S - 1) = T at *
  obtain ⟨Q, hQ⟩ : ∃ Q, n.tmod T = Q := ⟨_, rfl⟩
  rw [hQ] at hv b0 b1
  have hw3 : IntKind.i64.wrap Q = Q := IntWalk.i64_in _ (by omega)
  have hw4 : IntKind.i64.wrap (T - Q) = T - Q := IntWalk.i64_in _ (by omega)
  by_cases h2 : S ≤ Q
  · rw [if_pos h2] at hv
    have hd : decide (S ≤ Q) = true := decide_eq_true h2
    replace hv := Lib.hid hv
    go_enter Tryd.func43, Tryd.ntmps43
    go_wp2
    go_ret
    exact ⟨ret_i64 hv.out, below_a1 _ _⟩
  · rw [if_neg h2] at hv
    have hd : decide (S ≤ Q) = false := decide_eq_false h2
    replace hv := Lib.hid hv
    go_enter Tryd.func43, Tryd.ntmps43
    go_wp2
    go_ret
    exact ⟨ret_i64 hv.out, below_a1 _ _⟩
end Go.Proofs.YtceedmejmmoepaaDoor
