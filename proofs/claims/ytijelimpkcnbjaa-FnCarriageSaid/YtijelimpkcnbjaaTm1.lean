/- Moves of the carriage: the model's stops, tabs and moves. -/
import Derived.Test.YtijelimpkcnbjaaTm0
namespace Go.Proofs.Ytijelimpkcnbjaa
open Go.RowKit Go.ChangeShapes Go.WideShapes Go.Deep
set_option linter.unusedVariables false
set_option linter.unusedSimpArgs false

theorem ok11 (A : Option Addr) (n c : Nat) (ps : List Int) {v : Bool} (hv : stB ps = v) (w : World) (h : Ints w A n ps) (hn : n ≤ 1048576) :
    Calls Try.prog 23 #[.slice A n c] w fun e w' => e = .returned (.bool v) ∧ Below w.heap.size w w' := by
  have hl := h.1
  have hres : v = (decide (n ≤ 6) && risesB 30 1 ps) := by rw [← hv, stB, hl]
  clear hv hl
  by_cases h6 : n ≤ 6
  · have hr : Hid (risesB 30 1 ps = v) := Lib.hid (by rw [hres, decide_eq_true h6, Bool.true_and])
    have hc := Lib.hid (rises_spec A n c 1 30 ps hr.out w h hn)
    have g1 : decide ((n : Int) ≤ 6) = true := decide_eq_true (by omega)
    have g2 : decide (n ≤ 6) = true := decide_eq_true h6
    replace h6 := Lib.hid h6
    clear hres
    go_enter Try.func23, Try.ntmps23
    go_wp2_with fail
    refine hc.out.mono ?_
    rintro e w1 ⟨rfl, hb1⟩
    go_wp2
    go_ret
    exact ⟨rfl, hb1⟩
  · have hr : Hid (v = false) := Lib.hid (by rw [hres, decide_eq_false h6, Bool.false_and])
    have g1 : decide ((n : Int) ≤ 6) = false := decide_eq_false (by omega)
    have g2 : decide (n ≤ 6) = false := decide_eq_false h6
    replace h6 := Lib.hid h6
    clear hres h
    go_enter Try.func23, Try.ntmps23
    go_wp2
    go_ret
    exact ⟨ret_bo hr.out.symm, Below.refl _ _⟩
theorem vs11_spec (A : Option Addr) (n c : Nat) (ps : List Int) (w : World) (h : Ints w A n ps) (hn : n ≤ 1048576) (hx : ∀ x ∈ ps, intGood x) :
    Calls Try.prog 9 #[.slice A n c] w fun e w' => e = .returned (.bool (stB ps)) ∧ Below w.heap.size w w' := by
  have hc := Lib.hid (ok11 A n c ps rfl w h hn)
  go_enter Try.func9, Try.ntmps9
  go_wp2_with fail
  refine hc.out.mono ?_
  rintro e w1 ⟨rfl, hb1⟩
  go_wp2
  go_ret
  exact ⟨rfl, hb1⟩
end Go.Proofs.Ytijelimpkcnbjaa
