/- errors.Is for the one package error of ribbons: told of itself it is true, told of no error it is false. -/
import Derived.Test.YtceedmejmmoepaaDoorChecked
import Derived.Test.YtceedmejmmoepaaDoorRows0
import Derived.WalkKit
import Derived.LaidEql
import Derived.Stop.Asserts
import Derived.RowKitTokens
namespace Go.Proofs.YtceedmejmmoepaaDoor
open Go.RowKit Go.Extern.Stop Go.Stop Go.Extern
set_option linter.unusedVariables false
set_option linter.unusedSimpArgs false

theorem tyE (v : Value) (w : World) : (callFunc 47 #[.iface 105 v]).run Tryd.prog w = .ok (.value (.iface 76 (.agg #[.pointer (some ⟨4, 105, none⟩)]))) w := by kernel_rfl
theorem cmE (w : World) : (callFunc 84 #[.agg #[.pointer (some ⟨4, 105, none⟩)]]).run Tryd.prog w = .ok (.value (.bool true)) w := by kernel_rfl
theorem mcE (v : Value) (w : World) : (Go.method 242 76 v "Comparable").run Tryd.prog w = .ok (84, v) w := by kernel_rfl
theorem inE : (Tryd.prog.info? 105).map (·.comparable) = some true := by kernel_rfl
theorem szE : (Tryd.prog.info? 130).map (·.size) = some 1 := by kernel_rfl
set_option maxRecDepth 100000 in
theorem isE_same (a : Addr) (w : World) :
    Calls Tryd.prog 26 #[.iface 105 (.pointer (some a)), .iface 105 (.pointer (some a))] w fun e w' => e = .returned (.bool true) ∧ w' = w := by
  obtain ⟨i, hi, hcmp⟩ := Option.map_eq_some_iff.1 inE
  obtain ⟨j, hj, hjs⟩ := Option.map_eq_some_iff.1 szE
  have tT := tyE
  have cT := cmE
  have mR := mcE
  have heq := run_eql_iface_ptr_same (P := Tryd.prog) w a Tryd.underlying48 Tryd.underlying105 hi hcmp hj
  go_enter Tryd.func26, Tryd.ntmps26
  go_wp2
  refine wp_loop_rounds 1 ?_
  rw [rounds_succ]
  go_wp2
  go_ret
  exact ⟨rfl, rfl⟩
theorem isE_nil (b : Addr) (w : World) :
    Calls Tryd.prog 26 #[.nilIface, .iface 105 (.pointer (some b))] w fun e w' => e = .returned (.bool false) ∧ w' = w := by
  have hn := run_eql_iface_nil_left (P := Tryd.prog) w 105 (.pointer (some b)) Tryd.underlying48
  go_enter Tryd.func26, Tryd.ntmps26
  go_wp2
  go_ret
  exact ⟨rfl, rfl⟩
end Go.Proofs.YtceedmejmmoepaaDoor
