/- Racks of stops: whether numbers rise within bounds; the model's function and the program's. -/
import Derived.Test.YtceedmejmmoepaaDoorIntO
import Derived.Deep.QuietTactic
import Derived.BigQuiet
namespace Go.Proofs.YtceedmejmmoepaaDoor
open Go.RowKit Go.ChangeShapes Go.WideShapes Go.Deep
set_option linter.unusedVariables false
set_option linter.unusedSimpArgs false

def inR (n lo hi : Int) : Bool := decide (lo ≤ n) && decide (n ≤ hi)
theorem inR_iff {n lo hi : Int} : inR n lo hi = true ↔ lo ≤ n ∧ n ≤ hi := by simp [inR]
/-- The numbers rise strictly, from lo on and up to hi. -/
def risesB (hi : Int) : Int → List Int → Bool
  | _, [] => true
  | lo, x :: r => inR x lo hi && risesB hi (x + 1) r
def rackB (ps : List Int) : Bool := decide (ps.length ≤ 12) && risesB 119 0 ps
theorem rises_drop {hi lo : Int} {xs : List Int} {k : Nat} {x : Int} (h : xs[k]? = some x) : risesB hi lo (xs.drop k) = (inR x lo hi && risesB hi (x + 1) (xs.drop (k + 1))) := by
  obtain ⟨h1, rfl⟩ := List.getElem?_eq_some_iff.1 h
  rw [List.drop_eq_getElem_cons h1]
  rfl
theorem rises_end {hi lo : Int} {xs : List Int} {k : Nat} (h : xs.length ≤ k) : risesB hi lo (xs.drop k) = true := by
  rw [List.drop_of_length_le h]
  rfl
theorem in8_spec {n lo hi : Int} {v : Bool} (h : inR n lo hi = v) (w : World) :
    Calls Tryd.prog 32 #[.int .i64 n, .int .i64 lo, .int .i64 hi] w fun e w' => e = .returned (.bool v) ∧ w = w' := by
  by_cases h1 : lo ≤ n
  · have hres : Hid (v = decide (n ≤ hi)) := Lib.hid (by rw [← h]; simp [inR, h1])
    clear h
    go_enter Tryd.func32, Tryd.ntmps32
    go_wp2
    go_ret
    exact ⟨ret_bo hres.out.symm, rfl⟩
  · have hres : Hid (v = false) := Lib.hid (by rw [← h]; simp [inR, h1])
    clear h
    go_enter Tryd.func32, Tryd.ntmps32
    go_wp2
    go_ret
    exact ⟨ret_bo hres.out.symm, rfl⟩
theorem in8_impl {n lo hi : Int} {v : Bool} (h : inR n lo hi = v) (w : World) :
    Calls Tryd.prog 24 #[.int .i64 n, .int .i64 lo, .int .i64 hi] w fun e w' => e = .returned (.bool v) ∧ w = w' := by
  by_cases h1 : lo ≤ n
  · have hres : Hid (v = decide (n ≤ hi)) := Lib.hid (by rw [← h]; simp [inR, h1])
    clear h
    go_enter Tryd.func24, Tryd.ntmps24
    go_wp2
    go_ret
    exact ⟨ret_bo hres.out.symm, rfl⟩
  · have hres : Hid (v = false) := Lib.hid (by rw [← h]; simp [inR, h1])
    clear h
    go_enter Tryd.func24, Tryd.ntmps24
    go_wp2
    go_ret
    exact ⟨ret_bo hres.out.symm, rfl⟩
end Go.Proofs.YtceedmejmmoepaaDoor
