/- ValidPairs: the model's function and the program's. -/
import Derived.Test.YtgiphckiiapcaaaArrB
import Derived.Test.YtgiphckiiapcaaaIssO
namespace Go.Proofs.Ytgiphckiiapcaaa
open Go.RowKit
set_option linter.unusedVariables false
set_option linter.unusedSimpArgs false

theorem vp_spec (A : Option Addr) (n c : Nat) (xss : List (List Int)) (w : World) (h : IntSS w A n xss) (hn : n ≤ 1048576) (hx : ∀ xs ∈ xss, issGood xs) :
    Calls Try.prog 24 #[.slice A n c] w fun e w' => e = .returned (.bool (pairsOk xss)) ∧ Below w.heap.size w w' := by
  have hi := Lib.hid (ok5_spec A n c xss rfl w h hn)
  go_enter Try.func24, Try.ntmps24
  go_wp2_with fail
  refine (hi.out).mono ?_
  rintro e w1 ⟨rfl, rfl⟩
  go_wp2
  go_ret
  exact ⟨rfl, Below.refl _ _⟩
end Go.Proofs.Ytgiphckiiapcaaa
