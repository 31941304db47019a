/- Corrections: the program's letters, valid rules. -/
import Derived.Test.YtomnnhmhmehdjaaCo9
import Derived.Test.YtomnnhmhmehdjaaPair1
namespace Go.Proofs.Ytomnnhmhmehdjaa
open Go.RowKit Go.ChangeShapes Go.WideShapes Go.Deep
set_option linter.unusedVariables false
set_option linter.unusedSimpArgs false

theorem one_text12 {s : ByteArray} (h : s.size = 1) : s = ⟨#[bAt s 0]⟩ := by
  apply bytes_eq
  have hz : s.data.toList.length = 1 := h
  unfold bAt
  match hl : s.data.toList with
  | [a] => rfl
  | [] => rw [hl] at hz; cases hz
  | a :: b :: r => rw [hl] at hz; simp at hz
theorem letC_in {s : ByteArray} (h : s.size = 1) : (decide ((s.size : Int) ≤ 1) && bytesIn 33 126 s) = letC s := by
  rw [letC, decide_eq_true h, decide_eq_true (by omega), Bool.true_and, Bool.true_and]
  conv => lhs; rw [one_text12 h]
  simp [bytesIn]
theorem isLet12 (s : ByteArray) {v : Bool} (hv : letC s = v) (w : World) (hs : s.size ≤ maxLen) :
    Calls Try.prog 88 #[.string s] w fun e w' => e = .returned (.bool v) ∧ w = w' := by
  have hs' := hs
  unfold maxLen at hs'
  by_cases h1 : s.size = 1
  · have h1' : ((s.size : Int) == 1) = true := beq_iff_eq.2 (by omega)
    have hc := Lib.hid (hasBytes_any s 33 126 1 v (by rw [letC_in h1, hv]) w hs)
    clear h1 hv
    go_enter Try.func88, Try.ntmps88
    go_wp2_with (go_at_call 97; refine hc.out.mono ?_; rintro e w' ⟨rfl, rfl⟩)
    go_ret
    exact ⟨rfl, rfl⟩
  · have h1' : ((s.size : Int) == 1) = false := beq_eq_false_iff_ne.2 (by omega)
    have hr := Lib.hid (show v = false by rw [← hv, letC, decide_eq_false h1, Bool.false_and])
    clear h1 hv
    go_enter Try.func88, Try.ntmps88
    go_wp2_with fail
    go_ret
    exact ⟨ret_bo hr.out.symm, rfl⟩
theorem dist3 (a b c : UInt8) : distB [a, b, c] = (!decide (a = c) && (!decide (b = c) && !decide (a = b))) := by
  have hc1 : [a].contains b = decide (a = b) := by
    by_cases h : a = b
    · subst h; simp
    · have h' : ¬ b = a := fun e => h e.symm
      simp [h, h']
  have hc2 : [a, b].contains c = (decide (a = c) || decide (b = c)) := by
    by_cases h : a = c
    · subst h; simp
    · have h' : ¬ c = a := fun e => h e.symm
      by_cases h2 : b = c
      · subst h2; simp
      · have h2' : ¬ c = b := fun e => h2 e.symm
        simp [h, h', h2, h2']
  have e : distB [a, b, c] = ((!([] : List UInt8).contains a) && ((!([a].contains b)) && ((!([a, b].contains c)) && true))) := rfl
  rw [e, hc1, hc2]
  cases decide (a = b) <;> cases decide (a = c) <;> cases decide (b = c) <;> rfl
theorem sameB_one {s t : ByteArray} (hs : s.size = 1) (ht : t.size = 1) : sameB s t = decide (bAt s 0 = bAt t 0) := by
  rw [Bool.eq_iff_iff, decide_eq_true_iff]
  unfold sameB
  rw [beq_iff_eq]
  constructor
  · intro h
    rw [ByteArray.toList_eq, ByteArray.toList_eq] at h
    unfold bAt
    rw [h]
  · intro h
    rw [one_text12 hs, one_text12 ht, h]
/-- The three letters of a rule in a row have none twice. -/
theorem dist_one {x : OverD} (h1 : letC x.under = true) (h2 : letC x.top = true) (h3 : letC x.seen = true) : distB (x.under ++ x.top ++ x.seen).data.toList = oneB x := by
  rw [oneB, h1, h2, h3, Bool.true_and, Bool.true_and, Bool.true_and, sameB_one (letC_size h1) (letC_size h3), sameB_one (letC_size h2) (letC_size h3), sameB_one (letC_size h1) (letC_size h2)]
  conv => lhs; rw [one_text12 (letC_size h1), one_text12 (letC_size h2), one_text12 (letC_size h3)]
  rw [← dist3]
  congr 1
end Go.Proofs.Ytomnnhmhmehdjaa
