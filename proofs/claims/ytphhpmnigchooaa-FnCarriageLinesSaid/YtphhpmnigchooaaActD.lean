/- A Act as data: what the law's own helpers on one Act do. -/
import Derived.Test.YtphhpmnigchooaaProg
import Derived.Test.YtphhpmnigchooaaRows0
import Derived.Below
import Derived.Lib.Hide
import Derived.WalkKit
import Derived.ProofKit
import Derived.Outline
import Derived.LoopTactic
namespace Go.Proofs.Ytphhpmnigchooaa
open Go.RowKit
set_option linter.unusedVariables false
set_option linter.unusedSimpArgs false

structure ActD where
  kind : Int
  letter : ByteArray
def ActD.cells (p : ActD) : List Value := [.int .i64 p.kind, .string p.letter]
/-- What a reading gives of it: numbers fit, texts fit into memory. -/
def ActD.good (p : ActD) : Prop := (Lit.int .i64 p.kind).wf = true ∧ p.letter.size ≤ maxLen
def ActD.small (p : ActD) : Prop := p.letter.size ≤ 1048576

def ActD.eqB (a b : ActD) : Bool := (a.kind == b.kind) && (a.letter.toList == b.letter.toList)
theorem ActD.eqB_refl (a : ActD) : a.eqB a = true := by simp [ActD.eqB]

/-- What is left of l. -/
def szActI (l : Int) (x : ActD) : Int := if l - (x.letter.size : Int) < 0 then -1 else l - (x.letter.size : Int)
theorem szActI_le (l : Int) (x : ActD) (h : 0 ≤ l) : -1 ≤ szActI l x ∧ szActI l x ≤ l := by
  unfold szActI
  repeat' split
  all_goals omega
theorem szActI_small (l : Int) (x : ActD) (h : l ≤ 1048576) (h0 : 0 ≤ szActI l x) : x.small := by
  unfold szActI at h0
  unfold ActD.small
  repeat' split at h0
  all_goals omega
end Go.Proofs.Ytphhpmnigchooaa
