/- The law FnExactReadOver as one call: for every input it returns true. -/
import Derived.Test.YtomnnhmhmehdjaaOi4
import Derived.Test.YtomnnhmhmehdjaaOvO
import Derived.Test.YtomnnhmhmehdjaaTxtB
namespace Go.Proofs.Ytomnnhmhmehdjaa
open Go.RowKit
set_option linter.unusedVariables false
set_option linter.unusedSimpArgs false

set_option maxRecDepth 100000 in
set_option maxHeartbeats 4000000 in
theorem fnExactReadOver_any (a0 : ByteArray) (w : World) (h0 : a0.size ≤ maxLen) :
    Calls Try.prog 13 #[.string a0] w fun e w' => e = .returned (.bool true) ∧ Below w.heap.size w w' := by
  unfold maxLen at h0
  by_cases hbig : (1048576 : Int) < (a0.size : Int)
  · have g1 : decide ((1048576 : Int) < (a0.size : Int)) = true := decide_eq_true hbig
    go_enter Try.func13, Try.ntmps13
    go_wp2
    go_ret
    exact ⟨rfl, Below.refl _ _⟩
  · have g1 : decide ((1048576 : Int) < (a0.size : Int)) = false := decide_eq_false hbig
    have hsp := Lib.hid (fun W => ro12_spec a0 W (by omega))
    have him := Lib.hid (fun W => ro12_impl a0 W (by omega))
    generalize roR a0 = r at *
    obtain ⟨x, b⟩ := r
    have heq := Lib.hid (fun W => eqOver_is (a := x) (b := x) (v := true) x.eqB_refl W)
    obtain ⟨U, O, S⟩ := x
    simp only at hsp him heq
    have hbb : (b != b) = false := by cases b <;> rfl
    have hbb2 : (b == b) = true := by cases b <;> rfl
    go_enter Try.func13, Try.ntmps13
    go_wp2_with fail
    refine (hsp.out _).mono ?_
    rintro e w1 ⟨rfl, hb1⟩
    go_wp2_with fail
    refine (him.out _).mono ?_
    rintro e w2 ⟨rfl, hb2⟩
    have q0 := cell_step (cell_new (w := w1) (t := 59) (cs := #[.string U, .string O, .string S]) (o := 0) rfl rfl) hb2
    have q1 := cell_step (cell_new (w := w1) (t := 59) (cs := #[.string U, .string O, .string S]) (o := 1) rfl rfl) hb2
    have q2 := cell_step (cell_new (w := w1) (t := 59) (cs := #[.string U, .string O, .string S]) (o := 2) rfl rfl) hb2
    have hlt := World.block_lt_of_cell? _ _ q0
    simp only at hlt
    have hbw := Lib.hid ((hb1.alloc hb1.size _).step hb2)
    have hsz := hbw.out.size
    go_wp2_with fail
    refine (heq.out _).mono ?_
    rintro e w3 ⟨rfl, hb3⟩
    have hbz := Lib.hid ((hbw.out.alloc hsz _).step hb3)
    go_wp2
    go_ret
    exact ⟨rfl, hbz.out⟩
end Go.Proofs.Ytomnnhmhmehdjaa
