/- The law's own test of a list of presses by its size. -/
import Derived.Test.YtndodlfmjdgpcaaPress0
namespace Go.Proofs.Ytndodlfmjdgpcaa
open Go.RowKit
set_option linter.unusedVariables false
theorem szPressS_big (A : Option Addr) (n c : Nat) (l : Int) (w : World) (h0 : 0 ≤ l) (h1 : l ≤ 1048576) (hn : n ≤ maxLen) (h : l - n < 0) :
    Calls Try.prog 47 #[.slice A n c, .int .i64 l] w fun e w' => e = .returned (.int .i64 (-1)) ∧ w = w' := by
  have := szPressS_any A n c l w h0 h1 hn
  rwa [if_pos h] at this
theorem szPressS_fits (A : Option Addr) (n c : Nat) (l : Int) (w : World) (h0 : 0 ≤ l) (h1 : l ≤ 1048576) (hn : n ≤ maxLen) (h : ¬ l - n < 0) :
    Calls Try.prog 47 #[.slice A n c, .int .i64 l] w fun e w' => e = .returned (.int .i64 (l - n)) ∧ w = w' := by
  have := szPressS_any A n c l w h0 h1 hn
  rwa [if_neg h] at this
end Go.Proofs.Ytndodlfmjdgpcaa
