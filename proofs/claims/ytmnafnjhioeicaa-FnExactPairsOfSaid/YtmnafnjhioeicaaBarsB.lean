/- Bars: whether a basket has a bar, how long two bars wait, whether two strokes jam: the model's functions and the program's. -/
import Derived.Test.YtmnafnjhioeicaaBarsA
import Derived.Deep.RegionHeld3
import Derived.IntWalk
namespace Go.Proofs.Ytmnafnjhioeicaa
open Go.RowKit
set_option linter.unusedVariables false
set_option linter.unusedSimpArgs false

theorem size_spec (n : Int) (w : World) (h0 : -1000000 ≤ n) (h1 : n ≤ 1000000) : Calls Try.prog 61 #[.int .i64 n] w fun e w' => e = .returned (.int .i64 (max n (-n))) ∧ w = w' := by
  by_cases hn : n < 0
  · have hres : Hid (max n (-n) = -n) := Lib.hid (by omega)
    go_enter Try.func61, Try.ntmps61
    go_wp2
    go_ret
    exact ⟨ret_i64 hres.out.symm, rfl⟩
  · have hres : Hid (max n (-n) = n) := Lib.hid (by omega)
    go_enter Try.func61, Try.ntmps61
    go_wp2
    go_ret
    exact ⟨ret_i64 hres.out.symm, rfl⟩
theorem waitI_same (b : BasketD) (a : Int) : waitI b a a = b.rise + b.fall := by simp [waitI]
theorem waitI_other {b : BasketD} {a c : Int} (h : a ≠ c) : waitI b a c = b.clear + max 0 (b.near - max (a - c) (-(a - c))) := by
  unfold waitI
  rw [if_neg h]
  have : c - a = -(a - c) := by omega
  rw [this]

end Go.Proofs.Ytmnafnjhioeicaa
