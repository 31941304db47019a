/- A Layout as an argument and as a result: what the law's own helpers on one do. -/
import Derived.Test.YtmgoidngecimbaaStrO
import Derived.Test.YtmgoidngecimbaaOpen0
import Derived.ChangeArms
import Derived.ChangeMaps5
import Derived.Outline
import Derived.LoopTactic
namespace Go.Proofs.Ytmgoidngecimbaa
open Go.RowKit Go.ChangeShapes Go.WideShapes Go.Deep
set_option linter.unusedVariables false
set_option linter.unusedSimpArgs false

theorem frozen_new {w : World} {cs : Array Value} {t : TypeId} {b o : Nat} (hb : b = w.heap.size) : (w.alloc (.cells cs t)).frozen? ⟨b, o, none⟩ = false := by
  subst hb
  have hq : (w.alloc (.cells cs t)).heap[w.heap.size]? = some (.cells cs t) := heap_alloc_new _ _
  exact own_frozen hq o
theorem frozen_on {w : World} {b o : Nat} (hb : b < w.heap.size) (h : w.frozen? ⟨b, o, none⟩ = false) (x : Obj) : (w.alloc x).frozen? ⟨b, o, none⟩ = false :=
  ((below_a1 w x).frozen (p := ⟨b, o, none⟩) hb).trans h
def strGood (x : ByteArray) : Prop := x.size ≤ maxLen
/-- What szS hands back: less than nothing, or all is small. -/
def szStrOut (l : Int) (n : Nat) (ps : List ByteArray) (w : World) (e : Ending) (w' : World) : Prop :=
  ∃ v : Int, e = .returned (.int .i64 v) ∧ -1 ≤ v ∧ v ≤ l ∧ (0 ≤ v → (n : Int) ≤ l ∧ ∀ x ∈ ps, x.size ≤ 1048576) ∧ Below w.heap.size w w'
end Go.Proofs.Ytmgoidngecimbaa
