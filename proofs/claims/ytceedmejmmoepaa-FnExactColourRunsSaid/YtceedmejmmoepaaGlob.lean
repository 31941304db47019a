/- Closed facts of the whole translation, each shown once. -/
import Derived.Test.YtceedmejmmoepaaRows
import Derived.WalkKit
import Derived.ProofKit
import Derived.ChangeOld
namespace Go.Proofs.Ytceedmejmmoepaa
theorem glob_enter : Try.pinned.checked.prog.mayEnter = true := by kernel_rfl
theorem glob_lifts : (Rows.fnExactValidRibbonRow.lifted == Try.pinned.checked.prog.liftsFinal) = true := by kernel_rfl
theorem glob_make : (Try.pinned.checked.prog.make == some Rows.fnExactValidRibbonRow.make) = true := by kernel_rfl
theorem glob_laid : laidOutB Try.pinned.checked.prog = true := by kernel_rfl
theorem glob_rowed : mapsRowed Try.pinned.checked.prog = true := by kernel_rfl
theorem glob_heard : Try.pinned.checked.prog.stopsHeard = true := by kernel_rfl
end Go.Proofs.Ytceedmejmmoepaa
