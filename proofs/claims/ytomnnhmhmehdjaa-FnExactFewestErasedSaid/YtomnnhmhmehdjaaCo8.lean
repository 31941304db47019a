/- Corrections: the model's OverText, ReadOver. -/
import Derived.Test.YtomnnhmhmehdjaaCo4
namespace Go.Proofs.Ytomnnhmhmehdjaa
open Go.RowKit Go.ChangeShapes Go.WideShapes Go.Deep
set_option linter.unusedVariables false
set_option linter.unusedSimpArgs false

theorem oneB_sizes {x : OverD} (h : oneB x = true) : x.under.size = 1 ∧ x.top.size = 1 ∧ x.seen.size = 1 := by
  simp only [oneB, Bool.and_eq_true] at h
  exact ⟨letC_size h.1, letC_size h.2.1, letC_size h.2.2.1⟩
def otR (x : OverD) : ByteArray := if oneB x = true then x.under ++ ⟨#[60]⟩ ++ x.top ++ ⟨#[61]⟩ ++ x.seen else ByteArray.empty
theorem ret12_t {a b : ByteArray} (h : b = a) : Ending.returned (.string a) = .returned (.string b) := by rw [h]
set_option maxHeartbeats 1600000 in
theorem ot12_spec (x : OverD) (w : World) (hg : x.good) :
    Calls Try.prog 44 #[.agg #[.string x.under, .string x.top, .string x.seen]] w fun e w' => e = .returned (.string (otR x)) ∧ Below w.heap.size w w' := by
  obtain ⟨T, hT⟩ : ∃ T : TypeId, T = 59 := ⟨_, rfl⟩
  have q0 : (w.alloc (.cells #[.string x.under, .string x.top, .string x.seen] 59)).cell? ⟨w.heap.size, 0, none⟩ = some (.string x.under) := cell_new (by simp) rfl
  have q1 : (w.alloc (.cells #[.string x.under, .string x.top, .string x.seen] 59)).cell? ⟨w.heap.size, 1, none⟩ = some (.string x.top) := cell_new (by simp) rfl
  have q2 : (w.alloc (.cells #[.string x.under, .string x.top, .string x.seen] 59)).cell? ⟨w.heap.size, 2, none⟩ = some (.string x.seen) := cell_new (by simp) rfl
  cases h1 : oneB x with
  | false =>
    have hres : Hid (otR x = ByteArray.empty) := Lib.hid (by rw [otR, h1]; rfl)
    have hc := Lib.hid (one12 x h1 hg w.heap.size 0 (w.alloc (.cells #[.string x.under, .string x.top, .string x.seen] 59)) (by simp) q0 q1 q2)
    clear h1 q0 q1 q2 hg
    obtain ⟨U, O, S⟩ := x
    simp only at hc ⊢
    go_enter Try.func44, Try.ntmps44
    go_wp2_with fail
    refine hc.out.mono ?_
    rintro e w1 ⟨rfl, hb1⟩
    go_wp2
    go_ret
    exact ⟨ret12_t hres.out, (below_a1 _ _).step hb1⟩
  | true =>
    have hres : Hid (otR x = x.under ++ ⟨#[60]⟩ ++ x.top ++ ⟨#[61]⟩ ++ x.seen) := Lib.hid (by rw [otR, h1]; rfl)
    have hc := Lib.hid (one12 x h1 hg w.heap.size 0 (w.alloc (.cells #[.string x.under, .string x.top, .string x.seen] 59)) (by simp) q0 q1 q2)
    obtain ⟨s0, s1, s2⟩ := oneB_sizes h1
    clear h1 hg
    obtain ⟨U, O, S⟩ := x
    simp only at hc hres q0 q1 q2 s0 s1 s2 ⊢
    go_enter Try.func44, Try.ntmps44
    go_wp2_with fail
    refine hc.out.mono ?_
    rintro e w1 ⟨rfl, hb1⟩
    have c0 := cell_step q0 hb1
    have c1 := cell_step q1 hb1
    have c2 := cell_step q2 hb1
    clear q0 q1 q2
    go_wp2
    go_ret
    exact ⟨ret12_t hres.out, (below_a1 _ _).step hb1⟩
end Go.Proofs.Ytomnnhmhmehdjaa
