/- Baskets: whether a number lies between two others, whether a basket is valid, how long two bars wait: the model's functions and the program's. -/
import Derived.Test.YtgiphckiiapcaaaBars0
import Derived.Test.YtgiphckiiapcaaaOwn0
import Derived.Test.YtgiphckiiapcaaaOpen0
import Derived.Deep.QuietTactic
import Derived.BigQuiet
namespace Go.Proofs.Ytgiphckiiapcaaa
open Go.RowKit Go.ChangeShapes Go.WideShapes Go.Deep
set_option linter.unusedVariables false
set_option linter.unusedSimpArgs false

theorem in_spec {n lo hi : Int} {v : Bool} (h : isIn n lo hi = v) (w : World) :
    Calls Try.prog 52 #[.int .i64 n, .int .i64 lo, .int .i64 hi] w fun e w' => e = .returned (.bool v) ∧ w = w' := by
  by_cases h1 : lo ≤ n
  · have hres : Hid (v = decide (n ≤ hi)) := Lib.hid (by rw [← h]; simp [isIn, h1])
    clear h
    go_enter Try.func52, Try.ntmps52
    go_wp2
    go_ret
    exact ⟨ret_bo hres.out.symm, rfl⟩
  · have hres : Hid (v = false) := Lib.hid (by rw [← h]; simp [isIn, h1])
    clear h
    go_enter Try.func52, Try.ntmps52
    go_wp2
    go_ret
    exact ⟨ret_bo hres.out.symm, rfl⟩
theorem in_impl {n lo hi : Int} {v : Bool} (h : isIn n lo hi = v) (w : World) :
    Calls Try.prog 39 #[.int .i64 n, .int .i64 lo, .int .i64 hi] w fun e w' => e = .returned (.bool v) ∧ w = w' := by
  by_cases h1 : lo ≤ n
  · have hres : Hid (v = decide (n ≤ hi)) := Lib.hid (by rw [← h]; simp [isIn, h1])
    clear h
    go_enter Try.func39, Try.ntmps39
    go_wp2
    go_ret
    exact ⟨ret_bo hres.out.symm, rfl⟩
  · have hres : Hid (v = false) := Lib.hid (by rw [← h]; simp [isIn, h1])
    clear h
    go_enter Try.func39, Try.ntmps39
    go_wp2
    go_ret
    exact ⟨ret_bo hres.out.symm, rfl⟩
end Go.Proofs.Ytgiphckiiapcaaa
