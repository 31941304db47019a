/- Slices of string that the law makes, marks and looks at again. -/
import Derived.Test.YtceedmejmmoepaaDoorMarkT
import Derived.Test.YtceedmejmmoepaaDoorOwn0
import Derived.Deep.RegionHeld3
import Derived.Deep.QuietTactic
import Derived.BigQuiet
namespace Go.Proofs.YtceedmejmmoepaaDoor
open Go.RowKit Go.ChangeShapes Go.WideShapes Go.Deep
set_option linter.unusedVariables false
set_option linter.unusedSimpArgs false

def strC (x : ByteArray) : List Value := [.string x]
abbrev Strs (w : World) (A : Option Addr) (n : Nat) (xs : List ByteArray) : Prop := SRow 1 strC w A n xs
abbrev OStrs (w : World) (base : Nat) (A : Option Addr) (n : Nat) (xs : List ByteArray) : Prop := ORow 9 1 strC w base A n xs
theorem str_at {w : World} {A : Option Addr} {n k : Nat} {xs : List ByteArray} (h : Strs w A n xs) (hk : k < n) :
    ∃ b off x, A = some ⟨b, off, none⟩ ∧ b < w.heap.size ∧ Hid (xs[k]? = some x) ∧ w.cell? ⟨b, off + k, none⟩ = some (.string x) := by
  obtain ⟨b, off, x, e, hb, hx, hc⟩ := h.at_ hk
  have h0 := hc 0 _ rfl
  rw [Nat.mul_one, Nat.add_zero] at h0
  exact ⟨b, off, x, e, hb, Lib.hid hx, h0⟩
theorem Tryd.infoStr : (Tryd.prog.info? 9).map (fun i => (i.zero, i.size, i.bytes)) = some (some (.string ⟨#[]⟩), 1, 16) := by kernel_rfl
/-- The marks: element i of those from k on. -/
def markStr (k : Int) : ByteArray := markT k
theorem markStr_cells (k : Int) : strC (markStr k) = [.string (markT k)] := rfl
end Go.Proofs.YtceedmejmmoepaaDoor
