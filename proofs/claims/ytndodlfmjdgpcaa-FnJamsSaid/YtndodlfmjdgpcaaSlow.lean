/- The slowest pair of bars: the model's function and the program's. -/
import Derived.Test.YtndodlfmjdgpcaaBarCode
namespace Go.Proofs.Ytndodlfmjdgpcaa
open Go.RowKit
set_option linter.unusedVariables false
set_option linter.unusedSimpArgs false

/-- How long bar number i must wait for the one before it. -/
def wp (b : BasketD) (xs : List Int) (i : Nat) : Int := waitI b (xs.getD (i - 1) 0) (xs.getD i 0)
/-- The best of the pairs 1 .. k + 1. -/
def slowAt (b : BasketD) (xs : List Int) : Nat → Nat
  | 0 => 1
  | k + 1 => if wp b xs (slowAt b xs k) < wp b xs (k + 2) then k + 2 else slowAt b xs k
theorem slowAt_range (b : BasketD) (xs : List Int) : ∀ k, 1 ≤ slowAt b xs k ∧ slowAt b xs k ≤ k + 1
  | 0 => by simp [slowAt]
  | k + 1 => by
    have h := slowAt_range b xs k
    unfold slowAt
    split <;> omega
def slowest (b : BasketD) (xs : List Int) : Int × Int := if codeOf b xs = 0 then (if xs.length < 2 then (0, 3) else ((slowAt b xs (xs.length - 2) : Int), 0)) else (0, codeOf b xs)
theorem ret_two {r : Int × Int} {a c : Int} (h : r = (a, c)) : Ending.returned (.tuple #[.int .i64 a, .int .i64 c]) = .returned (.tuple #[.int .i64 r.1, .int .i64 r.2]) := by rw [h]
theorem codeOf_ok {b : BasketD} {xs : List Int} (h : codeOf b xs = 0) : basketOk b = true ∧ xs.length ≤ 60 ∧ ∀ (i : Nat) (x : Int), xs[i]? = some x → hasBar b x = true := by
  unfold codeOf at h
  split at h
  · rename_i hok
    split at h
    · rename_i h2
      simp only [Bool.and_eq_true, decide_eq_true_eq, Bool.not_eq_true', List.any_eq_false, lacksB, Bool.not_eq_false, Bool.not_eq_true] at h2
      refine ⟨hok, h2.1, fun i x hx => ?_⟩
      have := h2.2 x (List.mem_of_getElem? hx)
      simpa using this
    · cases h
  · cases h
theorem codeOf_cases (b : BasketD) (xs : List Int) : codeOf b xs = 0 ∨ codeOf b xs = 1 ∨ codeOf b xs = 2 := by
  unfold codeOf
  split
  · split <;> simp
  · simp
theorem getD_of {xs : List Int} {i : Nat} {x : Int} (h : xs[i]? = some x) : xs.getD i 0 = x := by simp [List.getD, h]

end Go.Proofs.Ytndodlfmjdgpcaa
