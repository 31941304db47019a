/- A Layout as an argument and as a result: what the law's own helpers on one do. -/
import Derived.Test.YticggclpaalhgaaDoorStrO
import Derived.Test.YticggclpaalhgaaDoorOpen0
import Derived.ChangeArms
import Derived.ChangeMaps5
import Derived.Outline
import Derived.LoopTactic
namespace Go.Proofs.YticggclpaalhgaaDoor
open Go.RowKit Go.ChangeShapes Go.WideShapes Go.Deep
set_option linter.unusedVariables false
set_option linter.unusedSimpArgs false

theorem frozen_new {w : World} {cs : Array Value} {t : TypeId} {b o : Nat} (hb : b = w.heap.size) : (w.alloc (.cells cs t)).frozen? ⟨b, o, none⟩ = false := by
  subst hb
  have hq : (w.alloc (.cells cs t)).heap[w.heap.size]? = some (.cells cs t) := heap_alloc_new _ _
  exact own_frozen hq o
theorem frozen_on {w : World} {b o : Nat} (hb : b < w.heap.size) (h : w.frozen? ⟨b, o, none⟩ = false) (x : Obj) : (w.alloc x).frozen? ⟨b, o, none⟩ = false :=
  ((below_a1 w x).frozen (p := ⟨b, o, none⟩) hb).trans h
def strGood (x : ByteArray) : Prop := x.size ≤ maxLen
/-- What szS hands back: less than nothing, or all is small. -/
def szStrOut (l : Int) (n : Nat) (ps : List ByteArray) (w : World) (e : Ending) (w' : World) : Prop :=
  ∃ v : Int, e = .returned (.int .i64 v) ∧ -1 ≤ v ∧ v ≤ l ∧ (0 ≤ v → (n : Int) ≤ l ∧ ∀ x ∈ ps, x.size ≤ 1048576) ∧ Below w.heap.size w w'
theorem eqLayS_any (A B : Option Addr) (n m c d : Nat) (xs ys : List ByteArray) (w : World) (hA : Strs w A n xs) (hB : Strs w B m ys) (he : xs = ys) (hn : n ≤ 1048576) :
    Calls Tryd.prog 6 #[.agg #[.slice A n c], .agg #[.slice B m d]] w fun e w' => e = .returned (.bool true) ∧ Below w.heap.size w w' := by
  have hq := Lib.hid (fun W (hP : Strs W A n xs) (hQ : Strs W B m ys) => eqStrS_any A B n m c d xs ys W hP hQ he hn)
  have hb0 := Lib.hid (below_a2 w (.cells #[.slice A n c] 24) (.cells #[.slice B m d] 24))
  have hA' := hA.below hb0.out
  have hB' := hB.below hb0.out
  clear hA hB he hn
  go_enter Tryd.func6, Tryd.ntmps6
  go_wp2_with fail
  refine (hq.out _ hA' hB').mono ?_
  rintro e w1 ⟨rfl, hb1⟩
  have hbw := Lib.hid (hb0.out.step hb1)
  go_wp2
  go_ret
  exact ⟨rfl, hbw.out⟩
theorem markLayS_any (A : Option Addr) (n c : Nat) (k : Int) (xs : List ByteArray) (base : Nat) (w : World) (h : OStrs w base A n xs) (hn : n ≤ 1048576) (hk0 : 1 ≤ k) (hk1 : k ≤ 1099511627776) :
    Calls Tryd.prog 7 #[.agg #[.slice A n c], .int .i64 k] w fun e w' => e = .returned (.int .i64 (k + (n : Int))) ∧ OStrs w' base A n (marksOf 1 markStr k n) ∧ w.grownBy w' (A.map (·.block)) := by
  have hq := Lib.hid (fun W (hP : OStrs W base A n xs) => markStrS_any A n c k xs base W hP hn hk0 hk1)
  have hb0 := Lib.hid (below_a1 w (.cells #[.slice A n c] 24))
  have P' := h.below hb0.out
  clear hn hk0 hk1 h
  go_enter Tryd.func7, Tryd.ntmps7
  go_wp2_with fail
  refine (hq.out _ P').mono ?_
  rintro e w1 ⟨rfl, hO, hgr⟩
  have hO' := Lib.hid hO
  have hgr' := Lib.hid (grown_trans (grown_below hb0.out _) hgr)
  clear hO hgr
  go_wp2
  go_ret
  exact ⟨rfl, hO'.out, hgr'.out⟩
theorem heldLayS_any (A : Option Addr) (n c : Nat) (k : Int) (w : World) (h : Strs w A n (marksOf 1 markStr k n)) (hn : n ≤ 1048576) (hk0 : 1 ≤ k) (hk1 : k ≤ 1099511627776) :
    Calls Tryd.prog 8 #[.agg #[.slice A n c], .int .i64 k] w fun e w' => e = .returned (.int .i64 (k + (n : Int))) ∧ Below w.heap.size w w' := by
  have hq := Lib.hid (fun W (hP : Strs W A n (marksOf 1 markStr k n)) => heldStrS_any A n c k W hP hn hk0 hk1)
  have hb0 := Lib.hid (below_a1 w (.cells #[.slice A n c] 24))
  have P' := h.below hb0.out
  have hneg : decide (k + (n : Int) < 0) = false := decide_eq_false (by omega)
  clear hn hk0 hk1 h
  go_enter Tryd.func8, Tryd.ntmps8
  go_wp2_with fail
  refine (hq.out _ P').mono ?_
  rintro e w1 ⟨rfl, hb1⟩
  have hbw := Lib.hid (hb0.out.step hb1)
  go_wp2
  go_ret
  exact ⟨rfl, hbw.out⟩
end Go.Proofs.YticggclpaalhgaaDoor
