/- Look-ups and stores, at the operation, in maps that are known entry by entry; bytes as keys. -/
import Derived.Test.YtomnnhmhmehdjaaMaps
import Derived.Test.YtomnnhmhmehdjaaOwn0
import Derived.Maps.OwnOps
import Derived.Maps.AppendAt
import Derived.Maps.Range
namespace Go.Proofs.Ytomnnhmhmehdjaa
open Go.RowKit Go.ChangeMaps Go.MapKept
set_option linter.unusedVariables false
set_option linter.unusedSimpArgs false

section
variable {κ : Type} [DecidableEq κ] {enc : κ → Value} {P : Program} {ops : Array Oper} {rest : List Oper} {o : Oper} {a : Act} {Q : Exit → Act → World → Prop}
/-- 'v, ok := m[k]', at the operation. -/
theorem wpList_look_is {w : World} (hg : o.guard = none) (m x : Operand) (t kt e : TypeId) (hop : o.op = Op.lookup t m x true) (K : KeyLaw P kt enc) (ht : P.underlying t = some (.map kt e)) {z : Value} (hz : (zeroValue e).run P w = .ok z w)
    {r : Nat} {l : List (κ × Value)} (hm : a.eval m = .map (some r)) (h : MapIs enc w r l) (k : κ) (hx : a.eval x = enc k) {v : Value} {b : Bool} (hv : (valOf k l).getD z = v) (hb : (valOf k l).isSome = b)
    (hK : wpList P ops Q rest (a.put o.dst (.tuple #[v, .bool b])) w) : wpList P ops Q (o :: rest) a w := by
  refine wpList_plain hg fun K' hK' => ?_
  have hrun := h.look K ht hz k
  rw [hv, hb] at hrun
  unfold Oper.wp
  simp [execOp, hop, hm, hx, hrun, Result.andThen]
  exact hK' _ _ hK
theorem wpList_look1_is {w : World} (hg : o.guard = none) (m x : Operand) (t kt e : TypeId) (hop : o.op = Op.lookup t m x false) (K : KeyLaw P kt enc) (ht : P.underlying t = some (.map kt e)) {z : Value} (hz : (zeroValue e).run P w = .ok z w)
    {r : Nat} {l : List (κ × Value)} (hm : a.eval m = .map (some r)) (h : MapIs enc w r l) (k : κ) (hx : a.eval x = enc k) {v : Value} (hv : (valOf k l).getD z = v)
    (hK : wpList P ops Q rest (a.put o.dst v) w) : wpList P ops Q (o :: rest) a w := by
  refine wpList_plain hg fun K' hK' => ?_
  have hrun := h.look1 K ht hz k
  rw [hv] at hrun
  unfold Oper.wp
  simp [execOp, hop, hm, hx, hrun, Result.andThen]
  exact hK' _ _ hK
/-- 'm[k] = v', at the operation, at a key that is not there. -/
theorem wpList_put_is {w : World} (hg : o.guard = none) (m x v : Operand) (t kt e : TypeId) (hop : o.op = Op.mapUpdate t m x v) (K : KeyLaw P kt enc) (ht : P.underlying t = some (.map kt e))
    {r : Nat} {l : List (κ × Value)} (hm : a.eval m = .map (some r)) (h : MapIs enc w r l) (k : κ) (val : Value) (hx : a.eval x = enc k) (hv : a.eval v = val) (hk : valOf k l = none)
    (hK : ∀ w', MapIs enc w' r (l ++ [(k, val)]) → w.grownBy w' (some r) → wpList P ops Q rest (a.put o.dst undef) w') : wpList P ops Q (o :: rest) a w := by
  refine wpList_plain hg fun K' hK' => ?_
  obtain ⟨w', hrun, r1, r2⟩ := h.put K ht k val hk
  unfold Oper.wp
  simp [execOp, hop, hm, hx, hv, hrun, Result.andThen]
  exact hK' _ _ (hK w' r1 r2)
end

def byteV (c : UInt8) : Value := .int .u8 (c.toNat : Int)
theorem findNow_byte : ∀ (l : List (UInt8 × Value)) (es : List MapEntry) (i : Nat) (k : UInt8), es.map (fun e => (e.key, e.val)) = l.map (fun x => (byteV x.1, x.2)) → Instr.findNow (.int .u8) (byteV k) es i = some (findAt k l i)
  | [], [], _, _, _ => rfl
  | [], _ :: _, _, _, h => by cases h
  | _ :: _, [], _, _, h => by cases h
  | x :: l, e :: es, i, k, h => by
    simp only [List.map_cons, List.cons.injEq, Prod.mk.injEq] at h
    obtain ⟨⟨h1, h2⟩, h3⟩ := h
    have ih := findNow_byte l es (i + 1) k h3
    unfold Instr.findNow findAt
    rw [h1, h2, ih]
    by_cases hk : k = x.1
    · rw [if_pos hk]
      have : Instr.sameNow (.int .u8) (byteV k) (byteV x.1) = some true := by simp [byteV, Instr.sameNow, hk]
      rw [this]
    · rw [if_neg hk]
      have hn : ¬ ((k.toNat : Int) = (x.1.toNat : Int)) := fun e => hk (UInt8.toNat_inj.1 (by omega))
      have : Instr.sameNow (.int .u8) (byteV k) (byteV x.1) = some false := by simp [byteV, Instr.sameNow, hn]
      rw [this]
theorem byteKey {P : Program} {kt : TypeId} (h : P.underlying kt = some (.int .u8)) : KeyLaw P kt byteV := by
  refine ⟨fun b k w => ?_, fun k es l w hl => ?_⟩
  · rw [show (10000 : Nat) = 9999 + 1 from rfl]
    unfold Instr.checkKey
    simp only [Sem.run_bind, run_underlying h, Result.andThen]
    rfl
  · have h1 := findNow_byte l es 0 k hl
    simp [Instr.findKey, run_underlying h, h1]
theorem grown_of {w w' : World} (h : Below w.heap.size w w') (row : Option Nat) : w.grownBy w' row := ⟨h.os, h.tape, h.output, h.size, fun k hk _ => h.block k hk⟩
theorem grown_step {w a b : World} {row : Option Nat} (h : Below w.heap.size w a) (g : a.grownBy b row) : w.grownBy b row := grown_trans (grown_of h row) g
end Go.Proofs.Ytomnnhmhmehdjaa
