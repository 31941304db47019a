/- A Basket as data: what the law's own helpers on one Basket do. -/
import Derived.Test.YthgeoilkjloblaaProg
import Derived.Test.YthgeoilkjloblaaRows0
import Derived.Below
import Derived.Lib.Hide
import Derived.WalkKit
import Derived.ProofKit
import Derived.Outline
import Derived.LoopTactic
namespace Go.Proofs.Ythgeoilkjloblaa
open Go.RowKit
set_option linter.unusedVariables false
set_option linter.unusedSimpArgs false

structure BasketD where
  bars : Int
  rise : Int
  fall : Int
  clear : Int
  near : Int
def BasketD.cells (p : BasketD) : List Value := [.int .i64 p.bars, .int .i64 p.rise, .int .i64 p.fall, .int .i64 p.clear, .int .i64 p.near]
/-- What a reading gives of it: numbers fit, texts fit into memory. -/
def BasketD.good (p : BasketD) : Prop := (Lit.int .i64 p.bars).wf = true ∧ (Lit.int .i64 p.rise).wf = true ∧ (Lit.int .i64 p.fall).wf = true ∧ (Lit.int .i64 p.clear).wf = true ∧ (Lit.int .i64 p.near).wf = true
def BasketD.small (p : BasketD) : Prop := True

theorem toBasket_any (p : BasketD) (w : World) :
    Calls Try.prog 22 #[.agg #[.int .i64 p.bars, .int .i64 p.rise, .int .i64 p.fall, .int .i64 p.clear, .int .i64 p.near]] w fun e w' => e = .returned (.agg #[.int .i64 p.bars, .int .i64 p.rise, .int .i64 p.fall, .int .i64 p.clear, .int .i64 p.near]) ∧ Below w.heap.size w w' := by
  obtain ⟨bars, rise, fall, clear, near⟩ := p
  go_enter Try.func22, Try.ntmps22
  go_wp2
  refine bodyPost_ret (v := .agg #[.int .i64 bars, .int .i64 rise, .int .i64 fall, .int .i64 clear, .int .i64 near]) (by simp [results, Try.results22, go_sem]) rfl ⟨rfl, ?_⟩
  exact (((Below.refl _ w).alloc (Nat.le_refl _) _).alloc (by simp) _).alloc (by simp; omega) _

def BasketD.eqB (a b : BasketD) : Bool := (a.bars == b.bars) && (a.rise == b.rise) && (a.fall == b.fall) && (a.clear == b.clear) && (a.near == b.near)
theorem BasketD.eqB_refl (a : BasketD) : a.eqB a = true := by simp [BasketD.eqB]

end Go.Proofs.Ythgeoilkjloblaa
