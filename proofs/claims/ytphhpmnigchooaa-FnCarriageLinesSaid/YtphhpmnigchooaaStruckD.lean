/- A Struck as data: what the law's own helpers on one Struck do. -/
import Derived.Test.YtphhpmnigchooaaProg
import Derived.Test.YtphhpmnigchooaaRows0
import Derived.Below
import Derived.Lib.Hide
import Derived.WalkKit
import Derived.ProofKit
import Derived.Outline
import Derived.LoopTactic
namespace Go.Proofs.Ytphhpmnigchooaa
open Go.RowKit
set_option linter.unusedVariables false
set_option linter.unusedSimpArgs false

structure StruckD where
  place : Int
  letter : ByteArray
def StruckD.cells (p : StruckD) : List Value := [.int .i64 p.place, .string p.letter]
/-- What a reading gives of it: numbers fit, texts fit into memory. -/
def StruckD.good (p : StruckD) : Prop := (Lit.int .i64 p.place).wf = true ∧ p.letter.size ≤ maxLen
def StruckD.small (p : StruckD) : Prop := p.letter.size ≤ 1048576

def StruckD.eqB (a b : StruckD) : Bool := (a.place == b.place) && (a.letter.toList == b.letter.toList)
theorem StruckD.eqB_refl (a : StruckD) : a.eqB a = true := by simp [StruckD.eqB]

/-- What is left of l. -/
def szStruckI (l : Int) (x : StruckD) : Int := if l - (x.letter.size : Int) < 0 then -1 else l - (x.letter.size : Int)
theorem szStruckI_le (l : Int) (x : StruckD) (h : 0 ≤ l) : -1 ≤ szStruckI l x ∧ szStruckI l x ≤ l := by
  unfold szStruckI
  repeat' split
  all_goals omega
theorem szStruckI_small (l : Int) (x : StruckD) (h : l ≤ 1048576) (h0 : 0 ≤ szStruckI l x) : x.small := by
  unfold szStruckI at h0
  unfold StruckD.small
  repeat' split at h0
  all_goals omega
end Go.Proofs.Ytphhpmnigchooaa
