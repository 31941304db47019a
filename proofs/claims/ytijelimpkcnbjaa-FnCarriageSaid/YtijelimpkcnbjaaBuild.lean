/- A strings.Builder at this program's numbers: what it is written (runes of ASCII, strings). -/
import Derived.Test.YtijelimpkcnbjaaOwn0
import Derived.Test.YtijelimpkcnbjaaShelf
import Derived.Shelf.Strings.BuilderK
namespace Go.Proofs.Ytijelimpkcnbjaa
open Go.RowKit Go.Shelf
set_option linter.unusedVariables false
set_option linter.unusedSimpArgs false

theorem Try.infoU8 : (Try.prog.info? 5).map (fun i => (i.zero, i.size, i.bytes)) = some (some (.int .u8 0), 1, 1) := by kernel_rfl
theorem cell_rune (c : Nat) (h : c < 128) : [Value.int .u8 (c : Int)] = Lib.byteCells [UInt8.ofNat c] := by
  simp [Lib.byteCells]
  omega

end Go.Proofs.Ytijelimpkcnbjaa
