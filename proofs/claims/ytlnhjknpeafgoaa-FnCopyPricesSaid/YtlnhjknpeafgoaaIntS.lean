/- Slices of int64 as lists: what the law's own helpers on them do, and how an argument is opened. -/
import Derived.Test.YtlnhjknpeafgoaaProg
import Derived.Test.YtlnhjknpeafgoaaOpen0
import Derived.Test.YtlnhjknpeafgoaaOwn0
import Derived.Below
import Derived.Lib.Hide
import Derived.WalkKit
import Derived.ProofKit
import Derived.Outline
import Derived.LoopTactic
import Derived.ChangeSlices
import Derived.Deep.QuietTactic
import Derived.BigQuiet
namespace Go.Proofs.Ytlnhjknpeafgoaa
open Go.RowKit Go.ChangeShapes Go.WideShapes Go.Deep
set_option linter.unusedVariables false
set_option linter.unusedSimpArgs false

def intC (x : Int) : List Value := [.int .i64 x]
def intGood (x : Int) : Prop := (Lit.int .i64 x).wf = true
abbrev Ints (w : World) (A : Option Addr) (n : Nat) (xs : List Int) : Prop := SRow 1 intC w A n xs

theorem int_at {w : World} {A : Option Addr} {n k : Nat} {xs : List Int} (h : Ints w A n xs) (hk : k < n) :
    ∃ b off x, A = some ⟨b, off, none⟩ ∧ b < w.heap.size ∧ Hid (xs[k]? = some x) ∧ w.cell? ⟨b, off + k, none⟩ = some (.int .i64 x) := by
  obtain ⟨b, off, x, e, hb, hx, hc⟩ := h.at_ hk
  have h0 := hc 0 _ rfl
  rw [Nat.mul_one, Nat.add_zero] at h0
  exact ⟨b, off, x, e, hb, Lib.hid hx, h0⟩

theorem Try.infoI64 : (Try.prog.info? 2).map (fun i => (i.zero, i.size, i.bytes)) = some (some (.int .i64 0), 1, 8) := by kernel_rfl

theorem eqI_end {xs ys : List Int} {k : Nat} (hx : xs.length = k) (hy : ys.length = k) (h : ∀ j < k, xs[j]? = ys[j]?) : xs = ys := List.ext_getElem? fun j => by
  rcases Nat.lt_or_ge j k with hj | hj
  · exact h j hj
  · rw [List.getElem?_eq_none (by omega), List.getElem?_eq_none (by omega)]


end Go.Proofs.Ytlnhjknpeafgoaa
