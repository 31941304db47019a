/- Bars: whether a basket has a bar, how long two bars wait, whether two strokes jam: the model's functions and the program's. -/
import Derived.Test.YthgeoilkjloblaaBarsA
import Derived.Deep.RegionHeld3
import Derived.IntWalk
namespace Go.Proofs.Ythgeoilkjloblaa
open Go.RowKit
set_option linter.unusedVariables false
set_option linter.unusedSimpArgs false

set_option maxRecDepth 100000 in
theorem bar_spec (b : BasketD) (n : Int) {v : Bool} (h : hasBar b n = v) (hb : basketOk b = true) (w : World) :
    Calls Try.prog 79 #[.agg #[.int .i64 b.bars, .int .i64 b.rise, .int .i64 b.fall, .int .i64 b.clear, .int .i64 b.near], .int .i64 n] w fun e w' => e = .returned (.bool v) ∧ Below w.heap.size w w' := by
  obtain ⟨bars, rise, fall, clear, near⟩ := b
  have hb' := basketOk_iff.1 hb
  simp only at hb'
  obtain ⟨⟨h1, h2⟩, _⟩ := hb'
  clear hb
  replace h := Lib.hid h
  go_enter Try.func79, Try.ntmps79
  go_wp2_with fail
  refine (in_spec h.out _).mono ?_
  rintro e w' ⟨rfl, rfl⟩
  go_wp2
  go_ret
  exact ⟨rfl, below_a1 _ _⟩
/-- .. of any basket: some answer. -/
theorem bar_spec_any (b : BasketD) (n : Int) (w : World) :
    Calls Try.prog 79 #[.agg #[.int .i64 b.bars, .int .i64 b.rise, .int .i64 b.fall, .int .i64 b.clear, .int .i64 b.near], .int .i64 n] w fun e w' => (∃ v, e = .returned (.bool v)) ∧ Below w.heap.size w w' := by
  obtain ⟨bars, rise, fall, clear, near⟩ := b
  go_enter Try.func79, Try.ntmps79
  go_wp2_with fail
  refine (in_spec rfl _).mono ?_
  rintro e w' ⟨rfl, rfl⟩
  go_wp2
  go_ret
  exact ⟨⟨_, rfl⟩, below_a1 _ _⟩
set_option maxRecDepth 100000 in
theorem lacks_impl (b : BasketD) (n : Int) {v : Bool} (h : hasBar b n = v) (hb : basketOk b = true) (w : World) :
    Calls Try.prog 83 #[.agg #[.int .i64 b.bars, .int .i64 b.rise, .int .i64 b.fall, .int .i64 b.clear, .int .i64 b.near], .int .i64 n] w fun e w' => e = .returned (.bool (!v)) ∧ Below w.heap.size w w' := by
  obtain ⟨bars, rise, fall, clear, near⟩ := b
  have hb' := basketOk_iff.1 hb
  simp only at hb'
  obtain ⟨⟨h1, h2⟩, _⟩ := hb'
  clear hb
  replace h := Lib.hid h
  go_enter Try.func83, Try.ntmps83
  go_wp2_with fail
  refine (in_impl h.out _).mono ?_
  rintro e w' ⟨rfl, rfl⟩
  go_wp2
  go_ret
  exact ⟨rfl, below_a1 _ _⟩

theorem size_spec (n : Int) (w : World) (h0 : -1000000 ≤ n) (h1 : n ≤ 1000000) : Calls Try.prog 82 #[.int .i64 n] w fun e w' => e = .returned (.int .i64 (max n (-n))) ∧ w = w' := by
  by_cases hn : n < 0
  · have hres : Hid (max n (-n) = -n) := Lib.hid (by omega)
    go_enter Try.func82, Try.ntmps82
    go_wp2
    go_ret
    exact ⟨ret_i64 hres.out.symm, rfl⟩
  · have hres : Hid (max n (-n) = n) := Lib.hid (by omega)
    go_enter Try.func82, Try.ntmps82
    go_wp2
    go_ret
    exact ⟨ret_i64 hres.out.symm, rfl⟩
theorem max_spec (a b : Int) (w : World) : Calls Try.prog 81 #[.int .i64 a, .int .i64 b] w fun e w' => e = .returned (.int .i64 (max a b)) ∧ w = w' := by
  by_cases hn : b < a
  · have hres : Hid (max a b = a) := Lib.hid (by omega)
    go_enter Try.func81, Try.ntmps81
    go_wp2
    go_ret
    exact ⟨ret_i64 hres.out.symm, rfl⟩
  · have hres : Hid (max a b = b) := Lib.hid (by omega)
    go_enter Try.func81, Try.ntmps81
    go_wp2
    go_ret
    exact ⟨ret_i64 hres.out.symm, rfl⟩

theorem waitI_same (b : BasketD) (a : Int) : waitI b a a = b.rise + b.fall := by simp [waitI]
theorem waitI_other {b : BasketD} {a c : Int} (h : a ≠ c) : waitI b a c = b.clear + max 0 (b.near - max (a - c) (-(a - c))) := by
  unfold waitI
  rw [if_neg h]
  have : c - a = -(a - c) := by omega
  rw [this]

set_option maxRecDepth 100000 in
theorem wait_spec (b : BasketD) (a c : Int) (hb : basketOk b = true) (ha : hasBar b a = true) (hc : hasBar b c = true) (w : World) :
    Calls Try.prog 72 #[.agg #[.int .i64 b.bars, .int .i64 b.rise, .int .i64 b.fall, .int .i64 b.clear, .int .i64 b.near], .int .i64 a, .int .i64 c] w fun e w' => e = .returned (.int .i64 (waitI b a c)) ∧ Below w.heap.size w w' := by
  by_cases hac : a = c
  · subst hac
    have hres := Lib.hid (waitI_same b a)
    obtain ⟨bars, rise, fall, clear, near⟩ := b
    have hb' := basketOk_iff.1 hb
    simp only at hb'
    obtain ⟨_, ⟨h1, h2⟩, ⟨h3, h4⟩, _⟩ := hb'
    clear hb ha hc
    go_enter Try.func72, Try.ntmps72
    go_wp2
    go_ret
    exact ⟨ret_i64 hres.out.symm, below_a1 _ _⟩
  · have hres := Lib.hid (waitI_other (b := b) hac)
    have hne : (a == c) = false := by simpa using hac
    rw [hasBar_iff] at ha hc
    obtain ⟨bars, rise, fall, clear, near⟩ := b
    have hb' := basketOk_iff.1 hb
    simp only at hb' ha hc
    obtain ⟨⟨h1, h2⟩, _, _, ⟨h3, h4⟩, h5, h6⟩ := hb'
    clear hb hac
    obtain ⟨a1, a2⟩ := ha
    obtain ⟨a3, a4⟩ := hc
    have q1 : 0 ≤ max (a - c) (-(a - c)) := by omega
    have q2 : max (a - c) (-(a - c)) ≤ 100 := by omega
    generalize hm : max (a - c) (-(a - c)) = m at *
    have q3 : 0 ≤ max 0 (near - m) := by omega
    have q4 : max 0 (near - m) ≤ 100 := by omega
    have hsz := fun W => size_spec (a - c) W (by omega) (by omega)
    rw [hm] at hsz
    replace hsz := Lib.hid hsz
    replace hm := Lib.hid hm
    have s1 : IntKind.i64.wrap (a - c) = a - c := IntWalk.i64_in _ (by omega)
    have s2 : IntKind.i64.wrap (near - m) = near - m := IntWalk.i64_in _ (by omega)
    have s3 : IntKind.i64.wrap (clear + max 0 (near - m)) = clear + max 0 (near - m) := IntWalk.i64_in _ (by omega)
    go_enter Try.func72, Try.ntmps72
    go_wp2_with fail
    go_quiet ((first | (go_at_call 82; refine quiet_l (hsz.out _)) | (go_at_call 81; refine quiet_l (max_spec 0 (near - m) _))))
    go_wp2
    go_ret
    exact ⟨ret_i64 hres.out.symm, below_drewN (below_a1 _ _) _⟩

theorem flight_impl (b : BasketD) (hb : basketOk b = true) (w : World) :
    Calls Try.prog 60 #[.agg #[.int .i64 b.bars, .int .i64 b.rise, .int .i64 b.fall, .int .i64 b.clear, .int .i64 b.near]] w fun e w' => e = .returned (.int .i64 (b.rise + b.fall)) ∧ Below w.heap.size w w' := by
  obtain ⟨bars, rise, fall, clear, near⟩ := b
  have hb' := basketOk_iff.1 hb
  simp only at hb'
  obtain ⟨_, ⟨h1, h2⟩, ⟨h3, h4⟩, _⟩ := hb'
  clear hb
  go_enter Try.func60, Try.ntmps60
  go_wp2
  go_ret
  exact ⟨rfl, below_a1 _ _⟩
set_option maxRecDepth 100000 in
theorem wait_impl (b : BasketD) (a c : Int) (hb : basketOk b = true) (ha : hasBar b a = true) (hc : hasBar b c = true) (w : World) :
    Calls Try.prog 78 #[.agg #[.int .i64 b.bars, .int .i64 b.rise, .int .i64 b.fall, .int .i64 b.clear, .int .i64 b.near], .int .i64 a, .int .i64 c] w fun e w' => e = .returned (.int .i64 (waitI b a c)) ∧ Below w.heap.size w w' := by
  by_cases hac : a = c
  · subst hac
    have hres := Lib.hid (waitI_same b a)
    have hfl := fun W => flight_impl b hb W
    replace hfl := Lib.hid hfl
    clear hb ha hc
    obtain ⟨bars, rise, fall, clear, near⟩ := b
    go_enter Try.func78, Try.ntmps78
    go_wp2_with fail
    refine (hfl.out _).mono ?_
    rintro e w1 ⟨rfl, hb1⟩
    go_wp2
    go_ret
    exact ⟨ret_i64 hres.out.symm, (below_a1 _ _).step hb1⟩
  · have hne : (a == c) = false := by simpa using hac
    have hwt : Hid (waitI b a c = b.clear + max 0 (b.near - max (a - c) (c - a))) := Lib.hid (by unfold waitI; rw [if_neg hac])
    rw [hasBar_iff] at ha hc
    obtain ⟨bars, rise, fall, clear, near⟩ := b
    have hb' := basketOk_iff.1 hb
    simp only at hb' ha hc
    obtain ⟨⟨h1, h2⟩, _, _, ⟨h3, h4⟩, h5, h6⟩ := hb'
    clear hb hac
    obtain ⟨a1, a2⟩ := ha
    obtain ⟨a3, a4⟩ := hc
    go_enter Try.func78, Try.ntmps78
    go_wp2
    all_goals
      go_ret
      exact ⟨ret_i64 (by have hz := hwt.out; omega), below_a1 _ _⟩
end Go.Proofs.Ythgeoilkjloblaa
