/- The law's own marks for texts: the letter m and a number in decimal. -/
import Derived.Test.YtceedmejmmoepaaDoorProg
import Derived.Test.YtceedmejmmoepaaDoorRows0
import Derived.WalkKit
import Derived.ProofKit
import Derived.Outline
import Derived.LoopTactic
import Derived.Below
import Derived.Lib.Hide
import Derived.Laws.OwnMore
import Derived.OwnWalk
import Derived.WalkSpells
import Derived.Laws.IdiomStrings
namespace Go.Proofs.YtceedmejmmoepaaDoor
open Go.RowKit
set_option linter.unusedVariables false
set_option linter.unusedSimpArgs false

/-- The digits of u, at most f of them. -/
def digF : Nat → Nat → List UInt8
  | 0, _ => []
  | f + 1, u => if u = 0 then [] else digF f (u / 10) ++ [UInt8.ofNat (48 + u % 10)]
theorem digF_zero (f : Nat) : digF f 0 = [] := by cases f <;> simp [digF]
def markT (k : Int) : ByteArray := ⟨(109 :: digF 64 k.toNat).toArray⟩
theorem markT_cons (b : UInt8) (l : List UInt8) : (⟨#[b]⟩ : ByteArray) ++ ⟨l.toArray⟩ = ⟨(b :: l).toArray⟩ := by
  apply ByteArray.ext
  simp
theorem digit_cell (d : Nat) (h : d < 10) : ((UInt8.ofNat (48 + d)).toNat : Int) = 48 + (d : Int) := by
  simp
  omega
theorem ret_st {a b : ByteArray} (h : a = b) : Ending.returned (.string a) = .returned (.string b) := by rw [h]

end Go.Proofs.YtceedmejmmoepaaDoor
