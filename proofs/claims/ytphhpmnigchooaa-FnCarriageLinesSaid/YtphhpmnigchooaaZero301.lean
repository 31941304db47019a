/- The 301 zero cells, named (for seats that are loaded without such names). -/
import Derived.Test.YtphhpmnigchooaaOver1
namespace Go.Proofs.Ytphhpmnigchooaa
open Go.RowKit
def Try.zeroCells46 : Array Value := Array.replicate 301 (.int .i64 0)
@[simp] theorem Try.zeroValue46 (w : World) : Sem.run Try.prog (zeroValue 46) w = Result.ok (.agg Try.zeroCells46) w := by kernel_rfl
@[simp] theorem Try.zeroCells46_size : Try.zeroCells46.size = 301 := by simp [Try.zeroCells46]
@[simp] theorem Try.zeroCells46_ne : Try.zeroCells46 ≠ #[] := fun h => by
  have := congrArg Array.size h
  rw [Try.zeroCells46_size] at this
  simp at this
end Go.Proofs.Ytphhpmnigchooaa
