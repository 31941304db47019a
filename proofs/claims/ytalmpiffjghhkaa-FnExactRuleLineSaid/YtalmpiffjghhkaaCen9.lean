/- Centring: RuleLine of the program. -/
import Derived.Test.YtalmpiffjghhkaaCen5
import Derived.Test.YtalmpiffjghhkaaRep
namespace Go.Proofs.Ytalmpiffjghhkaa
open Go.RowKit Go.ChangeShapes Go.WideShapes Go.Deep
set_option linter.unusedVariables false
set_option linter.unusedSimpArgs false

theorem one_text {s : ByteArray} (h : s.size = 1) : s = ⟨#[bAt s 0]⟩ := by
  apply bytes_eq
  have hz : s.data.toList.length = 1 := h
  unfold bAt
  match hl : s.data.toList with
  | [a] => rfl
  | [] => rw [hl] at hz; cases hz
  | a :: b :: r => rw [hl] at hz; simp at hz
theorem letB_in {s : ByteArray} (h : s.size = 1) : (decide ((s.size : Int) ≤ 1) && bytesIn 33 126 s) = letB s := by
  rw [letB, decide_eq_true h, decide_eq_true (by omega), Bool.true_and, Bool.true_and]
  conv => lhs; rw [one_text h]
  simp [bytesIn]
theorem isLet10 (s : ByteArray) {v : Bool} (hv : letB s = v) (w : World) (hs : s.size ≤ maxLen) :
    Calls Try.prog 20 #[.string s] w fun e w' => e = .returned (.bool v) ∧ w = w' := by
  have hs' := hs
  unfold maxLen at hs'
  by_cases h1 : s.size = 1
  · have h1' : ((s.size : Int) == 1) = true := beq_iff_eq.2 (by omega)
    have hc := Lib.hid (hasBytes_any s 33 126 1 v (by rw [letB_in h1, hv]) w hs)
    clear h1 hv
    go_enter Try.func20, Try.ntmps20
    go_wp2_with (go_at_call 33; refine hc.out.mono ?_; rintro e w' ⟨rfl, rfl⟩)
    go_ret
    exact ⟨rfl, rfl⟩
  · have h1' : ((s.size : Int) == 1) = false := beq_eq_false_iff_ne.2 (by omega)
    have hr := Lib.hid (show v = false by rw [← hv, letB, decide_eq_false h1, Bool.false_and])
    clear h1 hv
    go_enter Try.func20, Try.ntmps20
    go_wp2_with fail
    go_ret
    exact ⟨ret_bo hr.out.symm, rfl⟩
set_option maxRecDepth 100000 in
set_option maxHeartbeats 1600000 in
theorem ruleline10_impl (s : ByteArray) (wd : Int) (w : World) (hs : s.size ≤ 1048576) (hwf : (Lit.int .i64 wd).wf = true) :
    Calls Try.prog 7 #[.string s, .int .i64 wd] w fun e w' => e = .returned (.tuple #[.string (rlR s wd).1, .int .i64 (rlR s wd).2]) ∧ Below w.heap.size w w' := by
  clear hwf
  generalize hr : rlR s wd = r
  replace hr := Lib.hid hr.symm
  cases h1 : letB s with
  | false =>
    have hb : Hid (r = (ByteArray.empty, 2)) := Lib.hid (by rw [hr.out, rlR, h1]; rfl)
    have hc := Lib.hid (fun W => isLet10 s h1 W (by unfold maxLen; omega))
    clear h1
    go_enter Try.func7, Try.ntmps7
    go_wp2_with fail
    refine (hc.out _).mono ?_
    rintro e w1 ⟨rfl, rfl⟩
    go_wp2
    go_ret2
    exact ⟨ret_s10 hb.out, Below.refl _ _⟩
  | true =>
    have hc := Lib.hid (fun W => isLet10 s h1 W (by unfold maxLen; omega))
    cases h2 : inR wd 1 100 with
    | false =>
      have hb : Hid (r = (ByteArray.empty, 2)) := Lib.hid (by rw [hr.out, rlR, h1, h2]; rfl)
      have hc2 := Lib.hid (fun W => width10 wd h2 W)
      clear h1 h2
      go_enter Try.func7, Try.ntmps7
      go_wp2_with fail
      refine (hc.out _).mono ?_
      rintro e w1 ⟨rfl, rfl⟩
      go_wp2_with fail
      refine (hc2.out _).mono ?_
      rintro e w1 ⟨rfl, rfl⟩
      go_wp2
      go_ret2
      exact ⟨ret_s10 hb.out, Below.refl _ _⟩
    | true =>
      have hc2 := Lib.hid (fun W => width10 wd h2 W)
      obtain ⟨d1, d2⟩ := inR_iff.1 h2
      obtain ⟨W, rfl⟩ : ∃ W : Nat, wd = (W : Int) := ⟨wd.toNat, by omega⟩
      have hb : Hid (r = (repB (bAt s 0) W, 0)) := Lib.hid (by rw [hr.out, rlR, h1, h2, if_pos rfl, if_pos rfl, Int.toNat_natCast])
      have hrep := rep10 (bAt s 0) W (by omega)
      rw [← one_text (letB_size h1)] at hrep
      replace hrep := Lib.hid hrep
      have hw1 : IntKind.i64.wrap (W : Int) = (W : Int) := IntWalk.i64_in _ (by omega)
      clear h1 h2
      generalize repB (bAt s 0) W = RB at *
      go_enter Try.func7, Try.ntmps7
      go_wp2_with fail
      refine (hc.out _).mono ?_
      rintro e w1 ⟨rfl, rfl⟩
      go_wp2_with fail
      refine (hc2.out _).mono ?_
      rintro e w1 ⟨rfl, rfl⟩
      go_wp2_with fail
      refine (hrep.out _).mono ?_
      rintro e w2 ⟨rfl, hb2⟩
      go_wp2
      go_ret2
      exact ⟨ret_s10 hb.out, hb2⟩
end Go.Proofs.Ytalmpiffjghhkaa
