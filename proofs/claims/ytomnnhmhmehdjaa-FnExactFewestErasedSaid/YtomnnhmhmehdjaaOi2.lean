/- Corrections: the program's rules and their texts. -/
import Derived.Test.YtomnnhmhmehdjaaOi1
import Derived.Test.YtomnnhmhmehdjaaCp2
namespace Go.Proofs.Ytomnnhmhmehdjaa
open Go.RowKit Go.ChangeShapes Go.WideShapes Go.Deep
set_option linter.unusedVariables false
set_option linter.unusedSimpArgs false

set_option maxRecDepth 100000 in
set_option maxHeartbeats 1600000 in
theorem valid12i (x : OverD) {v : Bool} (hv : oneB x = v) (w : World) (hg : x.good) :
    Calls Try.prog 85 #[.agg #[.string x.under, .string x.top, .string x.seen]] w fun e w' => e = .returned (.bool v) ∧ Below w.heap.size w w' := by
  obtain ⟨z0, z1, z2⟩ := hg
  cases h0 : letC x.under with
  | false =>
    have hres : Hid (v = false) := Lib.hid (by rw [← hv]; simp [oneB, h0])
    have hc0 := Lib.hid (fun W => isLet12 x.under h0 W z0)
    clear h0 hv z0 z1 z2
    obtain ⟨U, O, S⟩ := x
    simp only at hc0
    go_enter Try.func85, Try.ntmps85
    go_wp2_with fail
    refine (hc0.out _).mono ?_
    rintro e w' ⟨rfl, rfl⟩
    go_wp2
    go_ret
    exact ⟨ret_bo hres.out.symm, below_a1 _ _⟩
  | true =>
    cases h1 : letC x.top with
    | false =>
      have hres : Hid (v = false) := Lib.hid (by rw [← hv]; simp [oneB, h0, h1])
      have hc0 := Lib.hid (fun W => isLet12 x.under h0 W z0)
      have hc1 := Lib.hid (fun W => isLet12 x.top h1 W z1)
      clear h0 h1 hv z0 z1 z2
      obtain ⟨U, O, S⟩ := x
      simp only at hc0 hc1
      go_enter Try.func85, Try.ntmps85
      go_wp2_with fail
      refine (hc0.out _).mono ?_
      rintro e w' ⟨rfl, rfl⟩
      go_wp2_with fail
      refine (hc1.out _).mono ?_
      rintro e w' ⟨rfl, rfl⟩
      go_wp2
      go_ret
      exact ⟨ret_bo hres.out.symm, below_a1 _ _⟩
    | true =>
      cases h2 : letC x.seen with
      | false =>
        have hres : Hid (v = false) := Lib.hid (by rw [← hv]; simp [oneB, h0, h1, h2])
        have hc0 := Lib.hid (fun W => isLet12 x.under h0 W z0)
        have hc1 := Lib.hid (fun W => isLet12 x.top h1 W z1)
        have hc2 := Lib.hid (fun W => isLet12 x.seen h2 W z2)
        clear h0 h1 h2 hv z0 z1 z2
        obtain ⟨U, O, S⟩ := x
        simp only at hc0 hc1 hc2
        go_enter Try.func85, Try.ntmps85
        go_wp2_with fail
        refine (hc0.out _).mono ?_
        rintro e w' ⟨rfl, rfl⟩
        go_wp2_with fail
        refine (hc1.out _).mono ?_
        rintro e w' ⟨rfl, rfl⟩
        go_wp2_with fail
        refine (hc2.out _).mono ?_
        rintro e w' ⟨rfl, rfl⟩
        go_wp2
        go_ret
        exact ⟨ret_bo hres.out.symm, below_a1 _ _⟩
      | true =>
        have hc0 := Lib.hid (fun W => isLet12 x.under h0 W z0)
        have hc1 := Lib.hid (fun W => isLet12 x.top h1 W z1)
        have hc2 := Lib.hid (fun W => isLet12 x.seen h2 W z2)
        have hdc := Lib.hid (fun W => twice_impl (x.under ++ x.top ++ x.seen) ((dist_one h0 h1 h2).trans hv) W (by have a0 := letC_size h0; have a1 := letC_size h1; have a2 := letC_size h2; simp only [ByteArray.size_append]; omega))
        have a0 := letC_size h0
        have a1 := letC_size h1
        have a2 := letC_size h2
        clear h0 h1 h2 hv z0 z1 z2
        have hcat : (x.under ++ x.top).size = 2 := by rw [ByteArray.size_append]; omega
        skip
        obtain ⟨U, O, S⟩ := x
        simp only at hc0 hc1 hc2 hcat hdc
        go_enter Try.func85, Try.ntmps85
        go_wp2_with fail
        refine (hc0.out _).mono ?_
        rintro e w' ⟨rfl, rfl⟩
        go_wp2_with fail
        refine (hc1.out _).mono ?_
        rintro e w' ⟨rfl, rfl⟩
        go_wp2_with fail
        refine (hc2.out _).mono ?_
        rintro e w' ⟨rfl, rfl⟩
        go_wp2_with fail
        refine (hdc.out _).mono ?_
        rintro e w' ⟨rfl, rfl⟩
        go_wp2
        go_ret
        exact ⟨rfl, below_a1 _ _⟩
set_option maxHeartbeats 1600000 in
theorem ot12_impl (x : OverD) (w : World) (hg : x.good) :
    Calls Try.prog 46 #[.agg #[.string x.under, .string x.top, .string x.seen]] w fun e w' => e = .returned (.string (otR x)) ∧ Below w.heap.size w w' := by
  cases h1 : oneB x with
  | false =>
    have hres : Hid (otR x = ByteArray.empty) := Lib.hid (by rw [otR, h1]; rfl)
    have hc := Lib.hid (fun W => valid12i x h1 W hg)
    clear h1 hg
    obtain ⟨U, O, S⟩ := x
    simp only at hc ⊢
    go_enter Try.func46, Try.ntmps46
    go_wp2_with fail
    refine (hc.out _).mono ?_
    rintro e w1 ⟨rfl, hb1⟩
    go_wp2
    go_ret
    exact ⟨ret12_t hres.out, (below_a1 _ _).step hb1⟩
  | true =>
    have hres : Hid (otR x = x.under ++ ⟨#[60]⟩ ++ x.top ++ ⟨#[61]⟩ ++ x.seen) := Lib.hid (by rw [otR, h1]; rfl)
    have hc := Lib.hid (fun W => valid12i x h1 W hg)
    obtain ⟨s0, s1, s2⟩ := oneB_sizes h1
    clear h1 hg
    obtain ⟨U, O, S⟩ := x
    simp only at hc hres s0 s1 s2 ⊢
    go_enter Try.func46, Try.ntmps46
    go_wp2_with fail
    refine (hc.out _).mono ?_
    rintro e w1 ⟨rfl, hb1⟩
    obtain ⟨q0, q1, q2⟩ := (Box3.new w _ (.string U) (.string O) (.string S)).step hb1
    go_wp2
    go_ret
    exact ⟨ret12_t hres.out, (below_a1 _ _).step hb1⟩
end Go.Proofs.Ytomnnhmhmehdjaa
