/- Copies: the model's strengths, typings and prices. -/
import Derived.Test.YtomnnhmhmehdjabCp1
import Derived.Test.YtomnnhmhmehdjabOwn8
namespace Go.Proofs.Ytomnnhmhmehdjab
open Go.RowKit Go.ChangeShapes Go.WideShapes Go.Deep
set_option linter.unusedVariables false
set_option linter.unusedSimpArgs false

structure Box3 (g : Nat) (a b c : Value) (w : World) : Prop where
  c0 : w.cell? ⟨g, 0, none⟩ = some a
  c1 : w.cell? ⟨g, 1, none⟩ = some b
  c2 : w.cell? ⟨g, 2, none⟩ = some c
theorem Box3.new (w : World) (T : TypeId) (a b c : Value) : Box3 w.heap.size a b c (w.alloc (.cells #[a, b, c] T)) := ⟨cell_new (by simp) rfl, cell_new (by simp) rfl, cell_new (by simp) rfl⟩
theorem Box3.step {g : Nat} {a b c : Value} {w w' : World} (h : Box3 g a b c w) (hb : Below w.heap.size w w') : Box3 g a b c w' := ⟨cell_step h.c0 hb, cell_step h.c1 hb, cell_step h.c2 hb⟩
structure Box4 (g : Nat) (a b c d : Value) (w : World) : Prop where
  c0 : w.cell? ⟨g, 0, none⟩ = some a
  c1 : w.cell? ⟨g, 1, none⟩ = some b
  c2 : w.cell? ⟨g, 2, none⟩ = some c
  c3 : w.cell? ⟨g, 3, none⟩ = some d
theorem Box4.new (w : World) (T : TypeId) (a b c d : Value) : Box4 w.heap.size a b c d (w.alloc (.cells #[a, b, c, d] T)) := ⟨cell_new (by simp) rfl, cell_new (by simp) rfl, cell_new (by simp) rfl, cell_new (by simp) rfl⟩
theorem Box4.step {g : Nat} {a b c d : Value} {w w' : World} (h : Box4 g a b c d w) (hb : Below w.heap.size w w') : Box4 g a b c d w' := ⟨cell_step h.c0 hb, cell_step h.c1 hb, cell_step h.c2 hb, cell_step h.c3 hb⟩
theorem max13 (a b : Int) {v : Int} (hv : max a b = v) (w : World) : Calls Try.prog 43 #[.int .i64 a, .int .i64 b] w fun e w' => e = .returned (.int .i64 v) ∧ w = w' := by
  by_cases h : b < a
  · have hm : Hid (a = v) := Lib.hid (by omega)
    have hd : decide (b < a) = true := decide_eq_true h
    have hd2 : decide (a < b) = false := decide_eq_false (by omega)
    clear hv
    go_enter Try.func43, Try.ntmps43
    go_wp2
    go_ret
    exact ⟨ret_i64 hm.out, rfl⟩
  · have hm : Hid (b = v) := Lib.hid (by omega)
    have hd : decide (b < a) = false := decide_eq_false h
    by_cases h2 : a < b
    · have hd2 : decide (a < b) = true := decide_eq_true h2
      clear hv
      go_enter Try.func43, Try.ntmps43
      go_wp2
      go_ret
      exact ⟨ret_i64 hm.out, rfl⟩
    · obtain rfl : a = b := by omega
      have hd2 : decide (a < a) = false := decide_eq_false (by omega)
      clear hv h2 hd hd2 h
      go_enter Try.func43, Try.ntmps43
      go_wp2
      go_ret
      exact ⟨ret_i64 hm.out, rfl⟩
theorem min13 (a b : Int) {v : Int} (hv : min a b = v) (w : World) : Calls Try.prog 69 #[.int .i64 a, .int .i64 b] w fun e w' => e = .returned (.int .i64 v) ∧ w = w' := by
  by_cases h : a < b
  · have hm : Hid (a = v) := Lib.hid (by omega)
    have hd : decide (a < b) = true := decide_eq_true h
    clear hv
    go_enter Try.func69, Try.ntmps69
    go_wp2
    go_ret
    exact ⟨ret_i64 hm.out, rfl⟩
  · have hm : Hid (b = v) := Lib.hid (by omega)
    have hd : decide (a < b) = false := decide_eq_false h
    clear hv
    go_enter Try.func69, Try.ntmps69
    go_wp2
    go_ret
    exact ⟨ret_i64 hm.out, rfl⟩
set_option maxHeartbeats 1600000 in
theorem sa13_spec (c : CarbonD) (s : Int) (w : World) (hg : c.good) (hwf : (Lit.int .i64 s).wf = true) :
    Calls Try.prog 16 #[.agg #[.int .i64 c.force, .int .i64 c.loss, .int .i64 c.least], .int .i64 s] w fun e w' => e = .returned (.tuple #[.int .i64 (saR c s).1, .int .i64 (saR c s).2]) ∧ Below w.heap.size w w' := by
  clear hg hwf
  generalize hr : saR c s = r
  replace hr := Lib.hid hr.symm
  cases h1 : caB c with
  | false =>
    have hb : Hid (r = (0, 1)) := Lib.hid (by rw [hr.out, saR, h1]; rfl)
    have hc := Lib.hid (fun W => ok13 c h1 W)
    clear h1 hr
    obtain ⟨F, L, E⟩ := c
    go_enter Try.func16, Try.ntmps16
    go_wp2_with fail
    refine (hc.out _).mono ?_
    rintro e w1 ⟨rfl, hb1⟩
    go_wp2
    go_ret2
    exact ⟨ret8_2 hb.out, (below_a1 _ _).step hb1⟩
  | true =>
    have hc := Lib.hid (fun W => ok13 c h1 W)
    cases h2 : inR s 0 11 with
    | false =>
      have hb : Hid (r = (0, 2)) := Lib.hid (by rw [hr.out, saR, h1, h2]; rfl)
      have hc2 := Lib.hid (fun W => in8_spec h2 W)
      clear h1 h2 hr
      obtain ⟨F, L, E⟩ := c
      go_enter Try.func16, Try.ntmps16
      go_wp2_with fail
      refine (hc.out _).mono ?_
      rintro e w1 ⟨rfl, hb1⟩
      go_wp2_with fail
      refine (hc2.out _).mono ?_
      rintro e w2 ⟨rfl, rfl⟩
      go_wp2
      go_ret2
      exact ⟨ret8_2 hb.out, (below_a1 _ _).step hb1⟩
    | true =>
      have hc2 := Lib.hid (fun W => in8_spec h2 W)
      have hb : Hid (r = (max 0 (c.force - s * c.loss), 0)) := Lib.hid (by rw [hr.out, saR, h1, h2, if_pos rfl, if_pos rfl])
      obtain ⟨⟨a, b⟩, ⟨d, e'⟩, _⟩ := caB_iff.1 h1
      obtain ⟨s0, s1⟩ := inR_iff.1 h2
      have hm := mul_in (a := s) (b := c.loss) (A := 11) (B := 1000) s0 s1 (by omega) e'
      obtain ⟨F, L, E⟩ := c
      simp only at *
      obtain ⟨P, hP⟩ : ∃ P, s * L = P := ⟨_, rfl⟩
      rw [hP] at hm hb
      have hw1 : IntKind.i64.wrap (s * L) = P := by rw [hP]; exact IntWalk.i64_in _ (by omega)
      have hw2 : IntKind.i64.wrap (F - P) = F - P := IntWalk.i64_in _ (by omega)
      have hmx := Lib.hid (fun W => max13 0 (F - P) rfl W)
      replace hP := Lib.hid hP
      generalize max 0 (F - P) = M at *
      clear h1 h2 hr
      go_enter Try.func16, Try.ntmps16
      go_wp2_with fail
      refine (hc.out _).mono ?_
      rintro e w1 ⟨rfl, hb1⟩
      obtain ⟨q0, q1, q2⟩ := (Box3.new w _ (.int .i64 F) (.int .i64 L) (.int .i64 E)).step hb1
      go_wp2_with fail
      refine (hc2.out _).mono ?_
      rintro e w2 ⟨rfl, rfl⟩
      go_wp2_with fail
      refine (hmx.out _).mono ?_
      rintro e w2 ⟨rfl, rfl⟩
      go_wp2
      go_ret2
      exact ⟨ret8_2 hb.out, (below_a1 _ _).step hb1⟩
end Go.Proofs.Ytomnnhmhmehdjab
