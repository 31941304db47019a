/- Bars: whether a basket has a bar, how long two bars wait, whether two strokes jam: the model's functions and the program's. -/
import Derived.Test.YtbhiimleagldgaaBarsA
import Derived.Deep.RegionHeld3
import Derived.IntWalk
namespace Go.Proofs.Ytbhiimleagldgaa
open Go.RowKit
set_option linter.unusedVariables false
set_option linter.unusedSimpArgs false

set_option maxRecDepth 100000 in
theorem lacks_impl (b : BasketD) (n : Int) {v : Bool} (h : hasBar b n = v) (hb : basketOk b = true) (w : World) :
    Calls Try.prog 50 #[.agg #[.int .i64 b.bars, .int .i64 b.rise, .int .i64 b.fall, .int .i64 b.clear, .int .i64 b.near], .int .i64 n] w fun e w' => e = .returned (.bool (!v)) ∧ Below w.heap.size w w' := by
  obtain ⟨bars, rise, fall, clear, near⟩ := b
  have hb' := basketOk_iff.1 hb
  simp only at hb'
  obtain ⟨⟨h1, h2⟩, _⟩ := hb'
  clear hb
  replace h := Lib.hid h
  go_enter Try.func50, Try.ntmps50
  go_wp2_with fail
  refine (in_impl h.out _).mono ?_
  rintro e w' ⟨rfl, rfl⟩
  go_wp2
  go_ret
  exact ⟨rfl, below_a1 _ _⟩

theorem waitI_same (b : BasketD) (a : Int) : waitI b a a = b.rise + b.fall := by simp [waitI]
theorem waitI_other {b : BasketD} {a c : Int} (h : a ≠ c) : waitI b a c = b.clear + max 0 (b.near - max (a - c) (-(a - c))) := by
  unfold waitI
  rw [if_neg h]
  have : c - a = -(a - c) := by omega
  rw [this]

theorem flight_impl (b : BasketD) (hb : basketOk b = true) (w : World) :
    Calls Try.prog 29 #[.agg #[.int .i64 b.bars, .int .i64 b.rise, .int .i64 b.fall, .int .i64 b.clear, .int .i64 b.near]] w fun e w' => e = .returned (.int .i64 (b.rise + b.fall)) ∧ Below w.heap.size w w' := by
  obtain ⟨bars, rise, fall, clear, near⟩ := b
  have hb' := basketOk_iff.1 hb
  simp only at hb'
  obtain ⟨_, ⟨h1, h2⟩, ⟨h3, h4⟩, _⟩ := hb'
  clear hb
  go_enter Try.func29, Try.ntmps29
  go_wp2
  go_ret
  exact ⟨rfl, below_a1 _ _⟩
set_option maxRecDepth 100000 in
theorem wait_impl (b : BasketD) (a c : Int) (hb : basketOk b = true) (ha : hasBar b a = true) (hc : hasBar b c = true) (w : World) :
    Calls Try.prog 52 #[.agg #[.int .i64 b.bars, .int .i64 b.rise, .int .i64 b.fall, .int .i64 b.clear, .int .i64 b.near], .int .i64 a, .int .i64 c] w fun e w' => e = .returned (.int .i64 (waitI b a c)) ∧ Below w.heap.size w w' := by
  by_cases hac : a = c
  · subst hac
    have hres := Lib.hid (waitI_same b a)
    have hfl := fun W => flight_impl b hb W
    replace hfl := Lib.hid hfl
    clear hb ha hc
    obtain ⟨bars, rise, fall, clear, near⟩ := b
    go_enter Try.func52, Try.ntmps52
    go_wp2_with fail
    refine (hfl.out _).mono ?_
    rintro e w1 ⟨rfl, hb1⟩
    go_wp2
    go_ret
    exact ⟨ret_i64 hres.out.symm, (below_a1 _ _).step hb1⟩
  · have hne : (a == c) = false := by simpa using hac
    have hwt : Hid (waitI b a c = b.clear + max 0 (b.near - max (a - c) (c - a))) := Lib.hid (by unfold waitI; rw [if_neg hac])
    rw [hasBar_iff] at ha hc
    obtain ⟨bars, rise, fall, clear, near⟩ := b
    have hb' := basketOk_iff.1 hb
    simp only at hb' ha hc
    obtain ⟨⟨h1, h2⟩, _, _, ⟨h3, h4⟩, h5, h6⟩ := hb'
    clear hb hac
    obtain ⟨a1, a2⟩ := ha
    obtain ⟨a3, a4⟩ := hc
    go_enter Try.func52, Try.ntmps52
    go_wp2
    all_goals
      go_ret
      exact ⟨ret_i64 (by have hz := hwt.out; omega), below_a1 _ _⟩
end Go.Proofs.Ytbhiimleagldgaa
