/- The law on ShiftsOf as one call: for every list of presses it returns true. -/
import Derived.Test.YtkdpileflddohaaShifts
import Derived.Test.YtkdpileflddohaaPressOpen
namespace Go.Proofs.Ytkdpileflddohaa
open Go.RowKit
set_option linter.unusedVariables false
set_option linter.unusedSimpArgs false

set_option maxHeartbeats 800000 in
theorem fnExactShiftsOf_any (A : Option Addr) (n c : Nat) (ps : List PressD) (w : World) (h : n ≤ maxLen ∧ Presses w A n ps ∧ ∀ x ∈ ps, x.good) :
    Calls Try.prog 12 #[.slice A n c] w fun e w' => e = .returned (.bool true) ∧ Below w.heap.size w w' := by
  obtain ⟨hn, hP, _⟩ := h
  have hn' := hn
  unfold maxLen at hn'
  have hsz := Lib.hid (szPressS_any A n c 1048576 w (by omega) (by omega) hn)
  by_cases hbig : (1048576 : Int) - n < 0
  · rw [if_pos hbig] at hsz
    go_enter Try.func12, Try.ntmps12
    go_wp2_with (go_at_call 43; refine (hsz.out).mono ?_; rintro e w' ⟨rfl, rfl⟩)
    go_ret
    exact ⟨rfl, Below.refl _ _⟩
  · rw [if_neg hbig] at hsz
    have hn2 : n ≤ 1048576 := by omega
    go_enter Try.func12, Try.ntmps12
    go_wp2_with (go_at_call 43; refine (hsz.out).mono ?_; rintro e w' ⟨rfl, rfl⟩)
    refine (toPressS_any A n c ps _ hP hn2).mono ?_
    rintro e w1 ⟨g1, rfl, hg1, hP1, hb1⟩
    have hA1 := hP.below hb1
    have H1 := Lib.hid hg1
    clear hg1
    go_wp2_with (go_at_call 21; refine (shifts_spec _ n n ps _ hP1 hn).mono ?_; rintro e w' ⟨rfl, rfl⟩)
    refine (toPressS_any A n c ps _ hA1 hn2).mono ?_
    rintro e w2 ⟨g2, rfl, hg2, hP2, hb2⟩
    have hA2 := hA1.below hb2
    clear hg2
    go_wp2_with (go_at_call 20; refine (shifts_impl _ n n ps _ hP2 hn).mono ?_)
    rintro e w3 ⟨rfl, hb3⟩
    have hA3 := hA2.below hb3
    have hP3 := hP2.below hb3
    go_wp2_with (go_at_call 45; refine (toPressS_any A n c ps _ hA3 hn2).mono ?_)
    rintro e w4 ⟨g4, rfl, hg4, hP4, hb4⟩
    have hP5 := hP3.below hb4
    clear hg4
    have hrefl := Lib.hid (eqPs_refl ps)
    go_wp2_with (go_at_call 47; refine (eqPressS_any _ _ n n n n ps ps _ hP5 hP4 hn hn).mono ?_)
    rintro e w5 ⟨rfl, hb5⟩
    rw [hrefl.out]
    have hw : Below w.heap.size w w5 := hb1.trans ((hb2.trans ((hb3.trans ((hb4.trans (hb5.mono hb4.size)).mono hb3.size)).mono hb2.size)).mono hb1.size)
    clear hb1 hb2 hb3 hb4 hb5
    go_wp2
    go_ret
    exact ⟨rfl, hw⟩
end Go.Proofs.Ytkdpileflddohaa
