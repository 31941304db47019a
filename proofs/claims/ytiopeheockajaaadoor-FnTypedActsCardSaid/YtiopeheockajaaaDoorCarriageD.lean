/- A Carriage as data: what the law's own helpers on one Carriage do. -/
import Derived.Test.YtiopeheockajaaaDoorProg
import Derived.Test.YtiopeheockajaaaDoorRows0
import Derived.Below
import Derived.Lib.Hide
import Derived.WalkKit
import Derived.ProofKit
import Derived.Outline
import Derived.LoopTactic
namespace Go.Proofs.YtiopeheockajaaaDoor
open Go.RowKit
set_option linter.unusedVariables false
set_option linter.unusedSimpArgs false

structure CarriageD where
  left : Int
  right : Int
  bell : Int
def CarriageD.cells (p : CarriageD) : List Value := [.int .i64 p.left, .int .i64 p.right, .int .i64 p.bell]
/-- What a reading gives of it: numbers fit, texts fit into memory. -/
def CarriageD.good (p : CarriageD) : Prop := (Lit.int .i64 p.left).wf = true ∧ (Lit.int .i64 p.right).wf = true ∧ (Lit.int .i64 p.bell).wf = true
def CarriageD.small (p : CarriageD) : Prop := True

theorem toCarriage_any (p : CarriageD) (w : World) :
    Calls Tryd.prog 6 #[.agg #[.int .i64 p.left, .int .i64 p.right, .int .i64 p.bell]] w fun e w' => e = .returned (.agg #[.int .i64 p.left, .int .i64 p.right, .int .i64 p.bell]) ∧ Below w.heap.size w w' := by
  obtain ⟨left, right, bell⟩ := p
  go_enter Tryd.func6, Tryd.ntmps6
  go_wp2
  refine bodyPost_ret (v := .agg #[.int .i64 left, .int .i64 right, .int .i64 bell]) (by simp [results, Tryd.results6, go_sem]) rfl ⟨rfl, ?_⟩
  exact (((Below.refl _ w).alloc (Nat.le_refl _) _).alloc (by simp) _).alloc (by simp; omega) _

def CarriageD.eqB (a b : CarriageD) : Bool := (a.left == b.left) && (a.right == b.right) && (a.bell == b.bell)
theorem CarriageD.eqB_refl (a : CarriageD) : a.eqB a = true := by simp [CarriageD.eqB]

end Go.Proofs.YtiopeheockajaaaDoor
