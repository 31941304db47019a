/- PrintedOf: the model's function and the program's. -/
import Derived.Test.YtndodlfmjdgpcaaPrint0
namespace Go.Proofs.Ytndodlfmjdgpcaa
open Go.RowKit
set_option linter.unusedVariables false
set_option linter.unusedSimpArgs false
theorem BoxB.on2 (w : World) (b : BasketD) (t : TypeId) (o : Obj) : BoxB ((w.alloc (.cells #[.int .i64 b.bars, .int .i64 b.rise, .int .i64 b.fall, .int .i64 b.clear, .int .i64 b.near] t)).alloc o) w.heap.size b := (BoxB.new w b t).step (below_a1 _ _)

end Go.Proofs.Ytndodlfmjdgpcaa
