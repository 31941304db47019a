/- Maps that the call itself has made, known entry by entry: what a look-up gives and what a store of a new key leaves. No program is named. -/
import Derived.Maps.Own
import Derived.Laws.StructEq
import Derived.Below
namespace Go.Proofs.Ytomnnhmhmehdjaa
open Go.RowKit Go.ChangeMaps Go.MapKept
set_option linter.unusedVariables false
set_option linter.unusedSimpArgs false
set_option linter.unusedSectionVars false

/-- The first entry with the key, its place and its value. -/
def findAt {κ : Type} [DecidableEq κ] (k : κ) : List (κ × Value) → Nat → Option (Nat × Value)
  | [], _ => none
  | x :: l, i => if k = x.1 then some (i, x.2) else findAt k l (i + 1)
/-- The value of a key. -/
def valOf {κ : Type} [DecidableEq κ] (k : κ) : List (κ × Value) → Option Value
  | [] => none
  | x :: l => if k = x.1 then some x.2 else valOf k l
theorem findAt_val {κ : Type} [DecidableEq κ] (k : κ) : ∀ (l : List (κ × Value)) (i : Nat), (findAt k l i).map (·.2) = valOf k l
  | [], _ => rfl
  | x :: l, i => by
    unfold findAt valOf
    split
    · rfl
    · exact findAt_val k l (i + 1)

/-- What is asked of a key's type: a key can always be asked for, and two keys are equal just if their values are. -/
structure KeyLaw (P : Program) (kt : TypeId) {κ : Type} [DecidableEq κ] (enc : κ → Value) : Prop where
  check : ∀ (b : Bool) (k : κ) (w : World), (Instr.checkKey b 10000 kt (enc k)).run P w = .ok () w
  find : ∀ (k : κ) (es : List MapEntry) (l : List (κ × Value)) (w : World), es.map (fun e => (e.key, e.val)) = l.map (fun x => (enc x.1, x.2)) → (Instr.findKey kt (enc k) es).run P w = .ok (findAt k l 0) w

/-- Block r is a map whose entries are just l, in the order in which they came. -/
def MapIs {κ : Type} (enc : κ → Value) (w : World) (r : Nat) (l : List (κ × Value)) : Prop :=
  ∃ es clock, w.heap[r]? = some (.map es clock) ∧ es.toList.map (fun e => (e.key, e.val)) = l.map (fun x => (enc x.1, x.2)) ∧ (∀ x ∈ es.toList, x.born < clock) ∧ (es.toList.map (·.born)).Nodup

section
variable {κ : Type} [DecidableEq κ] {enc : κ → Value} {P : Program} {w w' : World} {r : Nat} {l : List (κ × Value)}
theorem MapIs.lt (h : MapIs enc w r l) : r < w.heap.size := by
  obtain ⟨es, c, hb, _⟩ := h
  exact (Array.getElem?_eq_some_iff.1 hb).1
theorem MapIs.block (h : MapIs enc w r l) (e : w'.heap[r]? = w.heap[r]?) : MapIs enc w' r l := by
  obtain ⟨es, c, hb, hl⟩ := h
  exact ⟨es, c, e.trans hb, hl⟩
theorem MapIs.below {B : Nat} (h : MapIs enc w r l) (hb : Below B w w') (hr : r < B) : MapIs enc w' r l := h.block (hb.block r hr)
theorem MapIs.made (w : World) : MapIs enc (w.alloc (.map #[] 0)) w.heap.size ([] : List (κ × Value)) := ⟨#[], 0, (MapKept.heap_alloc w _).1, rfl, by simp, by simp⟩

theorem MapIs.look {t kt e : TypeId} (h : MapIs enc w r l) (K : KeyLaw P kt enc) (ht : P.underlying t = some (.map kt e)) {z : Value} (hz : (zeroValue e).run P w = .ok z w) (k : κ) :
    (Instr.lookup t (.map (some r)) (enc k) true).run P w = .ok (.tuple #[(valOf k l).getD z, .bool (valOf k l).isSome]) w := by
  obtain ⟨es, c, hb, hl, hbn, hnd⟩ := h
  have h1 := K.check es.isEmpty k w
  have h2 := K.find k es.toList l w hl
  have h3 := findAt_val k l 0
  cases hf : findAt k l 0 with
  | none =>
    rw [hf] at h2 h3
    rw [← h3]
    simp [Instr.lookup, run_underlying ht, MapKept.run_getObj_map hb, h1, h2, hz, Result.andThen]
  | some x =>
    rw [hf] at h2 h3
    rw [← h3]
    simp [Instr.lookup, run_underlying ht, MapKept.run_getObj_map hb, h1, h2, hz, Result.andThen]
theorem MapIs.look1 {t kt e : TypeId} (h : MapIs enc w r l) (K : KeyLaw P kt enc) (ht : P.underlying t = some (.map kt e)) {z : Value} (hz : (zeroValue e).run P w = .ok z w) (k : κ) :
    (Instr.lookup t (.map (some r)) (enc k) false).run P w = .ok ((valOf k l).getD z) w := by
  obtain ⟨es, c, hb, hl, hbn, hnd⟩ := h
  have h1 := K.check es.isEmpty k w
  have h2 := K.find k es.toList l w hl
  have h3 := findAt_val k l 0
  cases hf : findAt k l 0 with
  | none =>
    rw [hf] at h2 h3
    rw [← h3]
    simp [Instr.lookup, run_underlying ht, MapKept.run_getObj_map hb, h1, h2, hz, Result.andThen]
  | some x =>
    rw [hf] at h2 h3
    rw [← h3]
    simp [Instr.lookup, run_underlying ht, MapKept.run_getObj_map hb, h1, h2, hz, Result.andThen]
/-- A store of a key that is not there. -/
theorem MapIs.put {t kt e : TypeId} (h : MapIs enc w r l) (K : KeyLaw P kt enc) (ht : P.underlying t = some (.map kt e)) (k : κ) (v : Value) (hk : valOf k l = none) :
    ∃ w', (Instr.mapUpdate t (.map (some r)) (enc k) v).run P w = .ok () w' ∧ MapIs enc w' r (l ++ [(k, v)]) ∧ w.grownBy w' (some r) := by
  obtain ⟨es, c, hb, hl, hbn, hnd⟩ := h
  have h1 := K.check false k w
  have h2 := K.find k es.toList l w hl
  have h3 := findAt_val k l 0
  rw [hk] at h3
  have hf : findAt k l 0 = none := by
    cases hf : findAt k l 0 with
    | none => rfl
    | some x => rw [hf] at h3; cases h3
  rw [hf] at h2
  refine ⟨setBlock w r (.map (es.push { key := enc k, val := v, born := c }) (c + 1)), ?_, ⟨_, _, heap_setBlock_same hb _, by simp [hl], fun x hx => ?_, ?_⟩, ⟨rfl, rfl, rfl, by simp [setBlock], fun i _ hi => heap_setBlock_other hb _ (fun e => hi (by rw [e]))⟩⟩
  rotate_left
  · simp only [Array.toList_push, List.mem_append, List.mem_singleton] at hx
    rcases hx with hx | rfl
    · exact Nat.lt_succ_of_lt (hbn x hx)
    · exact Nat.lt_succ_self _
  · simp only [Array.toList_push, List.map_append, List.map_cons, List.map_nil]
    rw [List.nodup_append]
    refine ⟨hnd, by simp, fun a ha b hb' e => ?_⟩
    obtain ⟨x, hx, rfl⟩ := List.mem_map.1 ha
    simp only [List.mem_singleton] at hb'
    have := hbn x hx
    omega
  simp [Instr.mapUpdate, run_underlying ht, MapKept.run_getObj_map hb, h1, h2, MapKept.run_setObj_map _ hb, Result.andThen, setBlock]
end

theorem findNow_string : ∀ (l : List (ByteArray × Value)) (es : List MapEntry) (i : Nat) (k : ByteArray), es.map (fun e => (e.key, e.val)) = l.map (fun x => (Value.string x.1, x.2)) → Instr.findNow .string (.string k) es i = some (findAt k l i)
  | [], [], _, _, _ => rfl
  | [], _ :: _, _, _, h => by cases h
  | _ :: _, [], _, _, h => by cases h
  | x :: l, e :: es, i, k, h => by
    simp only [List.map_cons, List.cons.injEq, Prod.mk.injEq] at h
    obtain ⟨⟨h1, h2⟩, h3⟩ := h
    have ih := findNow_string l es (i + 1) k h3
    unfold Instr.findNow findAt
    rw [h1, h2, ih]
    by_cases hk : k = x.1
    · rw [if_pos hk]
      have : Instr.sameNow .string (.string k) (.string x.1) = some true := by rw [Instr.sameNow, hk, beq_toListBytes, beq_self_eq_true]
      rw [this]
    · rw [if_neg hk]
      have : Instr.sameNow .string (.string k) (.string x.1) = some false := by
        rw [Instr.sameNow, beq_toListBytes, beq_eq_false_iff_ne.2]
        intro e
        rw [ByteArray.toList_eq, ByteArray.toList_eq] at e
        exact hk (by apply ByteArray.ext; exact Array.toList_inj.1 e)
      rw [this]
theorem stringKey {P : Program} {kt : TypeId} (h : P.underlying kt = some .string) : KeyLaw P kt Value.string := by
  refine ⟨fun b k w => ?_, fun k es l w hl => ?_⟩
  · rw [show (10000 : Nat) = 9999 + 1 from rfl]
    unfold Instr.checkKey
    simp only [Sem.run_bind, run_underlying h, Result.andThen]
    rfl
  · have h1 := findNow_string l es 0 k hl
    simp [Instr.findKey, run_underlying h, h1]

/-- A struct of two strings as a key. -/
def pairKey (p : ByteArray × ByteArray) : Value := .agg #[.string p.1, .string p.2]
theorem findAsking_pair {P : Program} {kt : TypeId} (heq : ∀ (a b : ByteArray × ByteArray) (w : World), (Op.equal kt (pairKey a) (pairKey b)).run P w = .ok (decide (a = b)) w) :
    ∀ (l : List ((ByteArray × ByteArray) × Value)) (es : List MapEntry) (i : Nat) (k : ByteArray × ByteArray) (w : World), es.map (fun e => (e.key, e.val)) = l.map (fun x => (pairKey x.1, x.2)) → (Instr.findAsking kt (pairKey k) es i).run P w = .ok (findAt k l i) w
  | [], [], _, _, _, _ => by simp [Instr.findAsking, findAt]
  | [], _ :: _, _, _, _, h => by cases h
  | _ :: _, [], _, _, _, h => by cases h
  | x :: l, e :: es, i, k, w, h => by
    simp only [List.map_cons, List.cons.injEq, Prod.mk.injEq] at h
    obtain ⟨⟨h1, h2⟩, h3⟩ := h
    have ih := findAsking_pair heq l es (i + 1) k w h3
    unfold Instr.findAsking findAt
    rw [h1, h2]
    by_cases hk : k = x.1
    · simp [heq, hk, Result.andThen]
    · simp [heq, hk, Result.andThen, ih]
end Go.Proofs.Ytomnnhmhmehdjaa
