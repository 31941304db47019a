/- Centring: the model's functions that spread, join and underline texts, rules and leaders. -/
import Derived.Test.YtalmpiffjghhkaaCen0
namespace Go.Proofs.Ytalmpiffjghhkaa
open Go.RowKit Go.ChangeShapes Go.WideShapes Go.Deep
set_option linter.unusedVariables false
set_option linter.unusedSimpArgs false

theorem spI_zero (s : ByteArray) : spI s 1 = [] ++ [bAt s 0] := rfl
theorem spI_next (s : ByteArray) {k : Nat} (h : k ≠ 0) : spI s (k + 1) = spI s k ++ [32] ++ [bAt s k] := by rw [spI, if_neg h]
theorem let10 (s : ByteArray) {v : Bool} (hv : letB s = v) (w : World) (hs : s.size ≤ maxLen) :
    Calls Try.prog 17 #[.string s] w fun e w' => e = .returned (.bool v) ∧ w = w' := by
  unfold maxLen at hs
  by_cases h1 : s.size = 1
  · have h1' : ((s.size : Int) == 1) = true := beq_iff_eq.2 (by omega)
    have hp : 0 < s.size := by omega
    have hres : Hid (v = (decide (33 ≤ (s[0]'hp).toNat) && decide ((s[0]'hp).toNat ≤ 126))) := Lib.hid (by rw [← hv, letB, decide_eq_true h1, bAt_eq hp]; rfl)
    by_cases h33 : 33 ≤ (s[0]'hp).toNat
    · have g1 : decide ((32 : Int) < ((s[0]'hp).toNat : Int)) = true := decide_eq_true (by omega)
      have hres2 : Hid (v = decide (((s[0]'hp).toNat : Int) < 127)) := Lib.hid (by
        rw [hres.out, decide_eq_true h33, Bool.true_and]
        apply decide_eq_decide.2
        omega)
      clear h1 hv
      go_enter Try.func17, Try.ntmps17
      go_wp2
      go_ret
      exact ⟨ret_bo hres2.out.symm, rfl⟩
    · have g1 : decide ((32 : Int) < ((s[0]'hp).toNat : Int)) = false := decide_eq_false (by omega)
      have hres2 : Hid (v = false) := Lib.hid (by rw [hres.out, decide_eq_false h33, Bool.false_and])
      clear h1 hv
      go_enter Try.func17, Try.ntmps17
      go_wp2
      go_ret
      exact ⟨ret_bo hres2.out.symm, rfl⟩
  · have hres : Hid (v = false) := Lib.hid (by rw [← hv, letB, decide_eq_false h1, Bool.false_and])
    have h1' : ((s.size : Int) == 1) = false := beq_eq_false_iff_ne.2 (by omega)
    clear h1 hv
    go_enter Try.func17, Try.ntmps17
    go_wp2
    go_ret
    exact ⟨ret_bo hres.out.symm, rfl⟩
theorem letB_size {s : ByteArray} (h : letB s = true) : s.size = 1 := by simp only [letB, Bool.and_eq_true, decide_eq_true_eq] at h; exact h.1
theorem ruleline10_spec (s : ByteArray) (wd : Int) (w : World) (hs : s.size ≤ 1048576) (hwf : (Lit.int .i64 wd).wf = true) :
    Calls Try.prog 6 #[.string s, .int .i64 wd] w fun e w' => e = .returned (.tuple #[.string (rlR s wd).1, .int .i64 (rlR s wd).2]) ∧ Below w.heap.size w w' := by
  clear hwf
  generalize hr : rlR s wd = r
  replace hr := Lib.hid hr.symm
  cases h1 : letB s with
  | false =>
    have hb : Hid (r = (ByteArray.empty, 2)) := Lib.hid (by rw [hr.out, rlR, h1]; rfl)
    have hc := Lib.hid (fun W => let10 s h1 W (by unfold maxLen; omega))
    clear h1
    go_enter Try.func6, Try.ntmps6
    go_wp2_with fail
    refine (hc.out _).mono ?_
    rintro e w1 ⟨rfl, rfl⟩
    go_wp2
    go_ret2
    exact ⟨ret_s10 hb.out, Below.refl _ _⟩
  | true =>
    have hc := Lib.hid (fun W => let10 s h1 W (by unfold maxLen; omega))
    cases h2 : inR wd 1 100 with
    | false =>
      have hb : Hid (r = (ByteArray.empty, 2)) := Lib.hid (by rw [hr.out, rlR, h1, h2]; rfl)
      have hc2 := Lib.hid (fun W => in8_spec h2 W)
      clear h1 h2
      go_enter Try.func6, Try.ntmps6
      go_wp2_with fail
      refine (hc.out _).mono ?_
      rintro e w1 ⟨rfl, rfl⟩
      go_wp2_with fail
      refine (hc2.out _).mono ?_
      rintro e w1 ⟨rfl, rfl⟩
      go_wp2
      go_ret2
      exact ⟨ret_s10 hb.out, Below.refl _ _⟩
    | true =>
      have hc2 := Lib.hid (fun W => in8_spec h2 W)
      obtain ⟨w0, w100⟩ := inR_iff.1 h2
      obtain ⟨W, rfl⟩ : ∃ W : Nat, wd = (W : Int) := ⟨wd.toNat, by omega⟩
      have hs1 := letB_size h1
      have hp : 0 < s.size := by omega
      have hgood : Hid (r = (repB (s[0]'hp) W, 0)) := Lib.hid (by rw [hr.out, rlR, h1, h2, bAt_eq hp]; rfl)
      have hru := Lib.hid (fun W' => rule10 (s[0]'hp) W (by omega) W')
      have k1 : (0 : Int) < (s.size : Int) := by omega
      replace hs1 := Lib.hid hs1
      clear h1 h2
      go_enter Try.func6, Try.ntmps6
      go_wp2_with fail
      refine (hc.out _).mono ?_
      rintro e w1 ⟨rfl, rfl⟩
      go_wp2_with fail
      refine (hc2.out _).mono ?_
      rintro e w1 ⟨rfl, rfl⟩
      go_wp2_with fail
      refine (hru.out _).mono ?_
      rintro e w1 ⟨rfl, hb1⟩
      go_wp2
      go_ret2
      exact ⟨ret_s10 hgood.out, hb1⟩
end Go.Proofs.Ytalmpiffjghhkaa
