/- The law on SamePresses as one call: for every two lists of presses it returns true. -/
import Derived.Test.YtkdpileflddohaaSame
import Derived.Test.YtkdpileflddohaaPressOpen
namespace Go.Proofs.Ytkdpileflddohaa
open Go.RowKit
set_option linter.unusedVariables false
set_option linter.unusedSimpArgs false

theorem szPressS_big (A : Option Addr) (n c : Nat) (l : Int) (w : World) (h0 : 0 ≤ l) (h1 : l ≤ 1048576) (hn : n ≤ maxLen) (h : l - n < 0) :
    Calls Try.prog 43 #[.slice A n c, .int .i64 l] w fun e w' => e = .returned (.int .i64 (-1)) ∧ w = w' := by
  have := szPressS_any A n c l w h0 h1 hn
  rwa [if_pos h] at this
theorem szPressS_fits (A : Option Addr) (n c : Nat) (l : Int) (w : World) (h0 : 0 ≤ l) (h1 : l ≤ 1048576) (hn : n ≤ maxLen) (h : ¬ l - n < 0) :
    Calls Try.prog 43 #[.slice A n c, .int .i64 l] w fun e w' => e = .returned (.int .i64 (l - n)) ∧ w = w' := by
  have := szPressS_any A n c l w h0 h1 hn
  rwa [if_neg h] at this

set_option maxHeartbeats 800000 in
theorem fnExactSamePresses_any (A : Option Addr) (n c : Nat) (ps : List PressD) (B : Option Addr) (m d : Nat) (qs : List PressD) (w : World) (h : n ≤ maxLen ∧ Presses w A n ps ∧ ∀ x ∈ ps, x.good) (h' : m ≤ maxLen ∧ Presses w B m qs ∧ ∀ x ∈ qs, x.good) :
    Calls Try.prog 8 #[.slice A n c, .slice B m d] w fun e w' => e = .returned (.bool true) ∧ Below w.heap.size w w' := by
  obtain ⟨hn, hP, _⟩ := h
  obtain ⟨hm, hQ, _⟩ := h'
  have hn' := hn
  have hm' := hm
  unfold maxLen at hn' hm'
  by_cases hbig : (1048576 : Int) - n < 0
  · have hsz := Lib.hid (szPressS_big A n c 1048576 w (by omega) (by omega) hn hbig)
    go_enter Try.func8, Try.ntmps8
    go_wp2_with (go_at_call 43; refine (hsz.out).mono ?_; rintro e w' ⟨rfl, rfl⟩)
    go_ret
    exact ⟨rfl, Below.refl _ _⟩
  · have hsz := Lib.hid (szPressS_fits A n c 1048576 w (by omega) (by omega) hn hbig)
    have hn2 : n ≤ 1048576 := by omega
    by_cases hbig2 : (1048576 : Int) - n - m < 0
    · have hsz2 := Lib.hid (szPressS_big B m d (1048576 - n) w (by omega) (by omega) hm hbig2)
      go_enter Try.func8, Try.ntmps8
      go_wp2_with fail
      refine (hsz.out).mono ?_
      rintro e w' ⟨rfl, rfl⟩
      go_wp2_with fail
      refine (hsz2.out).mono ?_
      rintro e w' ⟨rfl, rfl⟩
      go_wp2_with fail
      go_ret
      exact ⟨rfl, Below.refl _ _⟩
    · have hsz2 := Lib.hid (szPressS_fits B m d (1048576 - n) w (by omega) (by omega) hm hbig2)
      have hm2 : m ≤ 1048576 := by omega
      go_enter Try.func8, Try.ntmps8
      go_wp2_with fail
      refine (hsz.out).mono ?_
      rintro e w' ⟨rfl, rfl⟩
      go_wp2_with fail
      refine (hsz2.out).mono ?_
      rintro e w' ⟨rfl, rfl⟩
      go_wp2_with fail
      refine (toPressS_any A n c ps _ hP hn2).mono ?_
      rintro e w1 ⟨g1, rfl, hg1, hP1, hb1⟩
      have hA1 := hP.below hb1
      have hB1 := hQ.below hb1
      clear hg1
      go_wp2_with (go_at_call 45; refine (toPressS_any B m d qs _ hB1 hm2).mono ?_)
      rintro e w2 ⟨g2, rfl, hg2, hQ2, hb2⟩
      have hA2 := hA1.below hb2
      have hB2 := hB1.below hb2
      have hP2 := hP1.below hb2
      clear hg2
      go_wp2_with (go_at_call 44; refine (same_spec _ _ n m n m ps qs _ hP2 hQ2 hn hm).mono ?_)
      rintro e w3 ⟨rfl, hb3⟩
      have hA3 := hA2.below hb3
      have hB3 := hB2.below hb3
      go_wp2_with (go_at_call 45; refine (toPressS_any A n c ps _ hA3 hn2).mono ?_)
      rintro e w4 ⟨g4, rfl, hg4, hP4, hb4⟩
      have hA4 := hA3.below hb4
      have hB4 := hB3.below hb4
      clear hg4
      go_wp2_with (go_at_call 45; refine (toPressS_any B m d qs _ hB4 hm2).mono ?_)
      rintro e w5 ⟨g5, rfl, hg5, hQ5, hb5⟩
      have hA5 := hA4.below hb5
      have hB5 := hB4.below hb5
      have hP5 := hP4.below hb5
      clear hg5
      go_wp2_with (go_at_call 46; refine (same_impl _ _ n m n m ps qs _ hP5 hQ5 hn hm).mono ?_)
      rintro e w6 ⟨rfl, hb6⟩
      have hA6 := hA5.below hb6
      have hB6 := hB5.below hb6
      have hP6 := hP5.below hb6
      have hQ6 := hQ5.below hb6
      have hreflp := Lib.hid (eqPs_refl ps)
      have hreflq := Lib.hid (eqPs_refl qs)
      go_wp2_with (go_at_call 45; refine (toPressS_any A n c ps _ hA6 hn2).mono ?_)
      rintro e w7 ⟨g7, rfl, hg7, hP7, hb7⟩
      clear hg7
      go_wp2_with (go_at_call 47; refine (eqPressS_any _ _ n n n n ps ps _ (hP6.below hb7) hP7 hn hn).mono ?_)
      rintro e w8 ⟨rfl, hb8⟩
      rw [hreflp.out]
      have hB8 := (hB6.below hb7).below hb8
      have hQ8 := (hQ6.below hb7).below hb8
      go_wp2_with (go_at_call 45; refine (toPressS_any B m d qs _ hB8 hm2).mono ?_)
      rintro e w9 ⟨g9, rfl, hg9, hQ9, hb9⟩
      clear hg9
      go_wp2_with (go_at_call 47; refine (eqPressS_any _ _ m m m m qs qs _ (hQ8.below hb9) hQ9 hm hm).mono ?_)
      rintro e w10 ⟨rfl, hb10⟩
      rw [hreflq.out]
      have hw := Lib.hid (hb1.step (hb2.step (hb3.step (hb4.step (hb5.step (hb6.step (hb7.step (hb8.step (hb9.step hb10)))))))))
      clear hb1 hb2 hb3 hb4 hb5 hb6 hb7 hb8 hb9 hb10
      go_wp2
      go_ret
      exact ⟨rfl, hw.out⟩
end Go.Proofs.Ytkdpileflddohaa
