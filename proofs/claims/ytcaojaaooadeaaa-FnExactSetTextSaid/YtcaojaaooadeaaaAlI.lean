/- Numbers aligned at one column: the program's functions. -/
import Derived.Test.YtcaojaaooadeaaaAl0
import Derived.Test.YtcaojaaooadeaaaNumI
import Derived.Test.YtcaojaaooadeaaaRak8
import Derived.Test.YtcaojaaooadeaaaLayD
namespace Go.Proofs.Ytcaojaaooadeaaa
open Go.RowKit Go.ChangeShapes Go.WideShapes Go.Deep
set_option linter.unusedVariables false
set_option linter.unusedSimpArgs false

theorem blanks8_impl (n : Nat) (hn : n ≤ 1000) (w : World) : Calls Try.prog 66 #[.int .i64 (n : Int)] w fun e w' => e = .returned (.string (blanksB n)) ∧ Below w.heap.size w w' := by
  have hrep := Lib.hid (fun W => Try.strings_Repeat ⟨#[32]⟩ n W (by omega) (by simp only [show (⟨#[32]⟩ : ByteArray).size = 1 from rfl]; omega))
  rw [show (⟨#[32]⟩ : ByteArray).data.toList = [32] from rfl, repeat_one8] at hrep
  go_enter Try.func66, Try.ntmps66
  go_wp2_with fail
  refine (hrep.out _).mono ?_
  rintro e w1 ⟨rfl, hb1⟩
  go_wp2
  go_ret
  exact ⟨rfl, hb1⟩
end Go.Proofs.Ytcaojaaooadeaaa
