/- Corrections: what each sign of a plan does, by the program. -/
import Derived.Test.YtomnnhmhmehdjaaOi2
import Derived.Deep.WholeRow
namespace Go.Proofs.Ytomnnhmhmehdjaa
open Go.RowKit Go.ChangeShapes Go.WideShapes Go.Deep
set_option linter.unusedVariables false
set_option linter.unusedSimpArgs false

def deedV (c : Nat) : Value := if c = 46 then .func (.func 104) #[] #[] else if c = 43 then .func (.func 58) #[] #[] else if c = 35 then .func (.func 105) #[] #[] else .nilFunc
def deedArr : Array Value := ((List.range 256).map deedV).toArray
theorem deedArr_is : deedArr.toList = ((Try.zeroCells128.toList.set 46 (.func (.func 104) #[] #[])).set 43 (.func (.func 58) #[] #[])).set 35 (.func (.func 105) #[] #[]) := by kernel_rfl
theorem deedArr_eq : deedArr.toList = (List.range 256).map deedV := rfl
theorem deedArr_at {c : Nat} (h : c < 256) : deedArr[c]? = some (deedV c) := by
  rw [← Array.getElem?_toList, deedArr_eq, List.getElem?_map, List.getElem?_range h]; rfl
theorem deedArr_size : deedArr.size = 256 := by
  rw [← Array.length_toList, deedArr_eq]; simp
theorem deedArr_one : deedArr.all (·.oneCell') = true := by kernel_rfl
theorem results_cell {fn : Func} {a : Tmp} {t : TypeId} (h : fn.results = #[.cell a t]) {tmps : Array Value} {P : Program} {w : World} {p : Addr} {v : Value} (hp : tmps.getD a undef = .pointer (some p)) (hl : (loadVar t p).run P w = .ok v w) :
    (results fn tmps).run P w = .ok v w := by
  unfold results
  rw [h]
  have hp2 : tmps[a]?.getD undef = .pointer (some p) := by simpa using hp
  simp [hp2, asAddr, hl, Result.andThen]
set_option maxRecDepth 100000 in
set_option maxHeartbeats 1600000 in
theorem dbs12 (w : World) : Calls Try.prog 94 #[] w fun e w' => e = .returned (.agg deedArr) ∧ Below w.heap.size w w' := by
  have hst := run_storeCells_new (P := Try.prog) w 128 Try.zeroCells128 deedArr (by rw [deedArr_size]; kernel_rfl) (by rw [deedArr_size]; kernel_rfl) deedArr_one
  rw [deedArr_is] at hst
  have hld := run_loadCellsFrom_new (P := Try.prog) w 128 deedArr 256 deedArr_size
  go_enter Try.func94, Try.ntmps94
  go_wp2
  refine bodyPost_ret (v := .agg deedArr) (results_cell Try.results94 rfl (run_loadVar_new w 128 deedArr 256 101 Try.underlying128 (by rw [deedArr_size]; kernel_rfl))) rfl ?_
  exact ⟨rfl, below_a1 _ _⟩
end Go.Proofs.Ytomnnhmhmehdjaa
