/- Copies: the model's typings, prices, the cheapest way. -/
import Derived.Test.YtlnhjknpeafgoaaCp2
namespace Go.Proofs.Ytlnhjknpeafgoaa
open Go.RowKit Go.ChangeShapes Go.WideShapes Go.Deep
set_option linter.unusedVariables false
set_option linter.unusedSimpArgs false

theorem box43 (w : World) (T U : TypeId) (a b c d e f g : Value) : Box3 w.heap.size a b c ((w.alloc (.cells #[a, b, c] T)).alloc (.cells #[d, e, f, g] U)) ∧ Box4 (w.heap.size + 1) d e f g ((w.alloc (.cells #[a, b, c] T)).alloc (.cells #[d, e, f, g] U)) :=
  ⟨(Box3.new w T a b c).step (below_a1 _ _), by have := Box4.new (w.alloc (.cells #[a, b, c] T)) U d e f g; simpa using this⟩
end Go.Proofs.Ytlnhjknpeafgoaa
