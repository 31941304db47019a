/- The code of a basket, pairs and an arrangement, and of a basket and an arrangement alone: the model's functions and the program's. -/
import Derived.Test.YtgiphckiiapcaaaArrB
namespace Go.Proofs.Ytgiphckiiapcaaa
open Go.RowKit
set_option linter.unusedVariables false
set_option linter.unusedSimpArgs false

theorem arrCode_bad1 {b : BasketD} {xss : List (List Int)} {ps : List Int} (h : basketOk b = false) : arrCode b xss ps = 1 := by simp [arrCode, h]
theorem arrCode_bad2 {b : BasketD} {xss : List (List Int)} {ps : List Int} (h : pairsOk xss = false) : arrCode b xss ps = 1 := by simp [arrCode, h]
theorem arrCode_bad3 {b : BasketD} {xss : List (List Int)} {ps : List Int} (h1 : basketOk b = true) (h2 : pairsOk xss = true) (h : placesOk b ps = false) : arrCode b xss ps = 2 := by simp [arrCode, h, h1, h2]
theorem arrCode_bad4 {b : BasketD} {xss : List (List Int)} {ps : List Int} (h1 : basketOk b = true) (h2 : pairsOk xss = true) (h : ps.length ≠ xss.length) : arrCode b xss ps = 2 := by simp [arrCode, h, h1, h2]
theorem arrCode_good {b : BasketD} {xss : List (List Int)} {ps : List Int} (h1 : basketOk b = true) (h2 : pairsOk xss = true) (h3 : placesOk b ps = true) (h : ps.length = xss.length) : arrCode b xss ps = 0 := by simp [arrCode, h, h1, h2, h3]
theorem box_new (w : World) (b : BasketD) (t : TypeId) : BoxB (w.alloc (.cells #[.int .i64 b.bars, .int .i64 b.rise, .int .i64 b.fall, .int .i64 b.clear, .int .i64 b.near] t)) w.heap.size b := BoxB.new w b t

end Go.Proofs.Ytgiphckiiapcaaa
