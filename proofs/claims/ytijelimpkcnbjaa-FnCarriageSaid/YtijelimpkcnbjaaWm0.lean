/- Maps with ways as keys: counting. -/
import Derived.Test.YtijelimpkcnbjaaMaps
import Derived.Test.YtijelimpkcnbjaaMapOps
import Derived.Test.YtijelimpkcnbjaaMapRng
import Derived.Test.YtijelimpkcnbjaaBf4
import Derived.WideKeyEntry
namespace Go.Proofs.Ytijelimpkcnbjaa
open Go.RowKit Go.ChangeShapes Go.WideShapes Go.Deep Go.ChangeMaps
set_option linter.unusedVariables false
set_option linter.unusedSimpArgs false

def wayV (p : Nat × Nat) : Value := .agg #[.int .i64 (p.1 : Int), .int .i64 (p.2 : Int)]
theorem way_equal (a b : Nat × Nat) (w : World) : (Op.equal 48 (wayV a) (wayV b)).run Try.prog w = .ok (decide (a = b)) w := by
  have hs : Try.prog.underlying 48 = some (.struct (Try.prog.fieldsOf 48)) := by kernel_rfl
  have h0 : Op.equal 48 (wayV a) (wayV b) = Op.equalIn 10000 48 (wayV a) (wayV b) := by
    simp [Op.equal, Op.maxDepth]
  rw [h0, show (10000 : Nat) = 9998 + 1 + 1 from rfl, wayV, wayV, run_equalIn_struct _ _ _ _ _ hs (by kernel_rfl)]
  have hf : (Try.prog.fieldsOf 48).toList = (match Try.prog.underlying 48 with | some (.struct fs) => fs.toList | _ => []) := by kernel_rfl
  rw [hf, Try.underlying48]
  obtain ⟨a1, a2⟩ := a
  obtain ⟨b1, b2⟩ := b
  have hi : ∀ (m : Nat) (x y : Nat) (W : World), (Op.equalIn (m + 1) 2 (.int .i64 (x : Int)) (.int .i64 (y : Int))).run Try.prog W = .ok (decide (x = y)) W := by
    intro m x y W
    rw [run_equalIn_int W m 2 .i64 .i64 _ _ Try.underlying2]
    rw [show ((x : Int) == (y : Int)) = decide (x = y) from by rw [Bool.eq_iff_iff]; simp only [beq_iff_eq, decide_eq_true_eq]; omega]
  simp [Op.eqFields, part, run_sizeOf, go_sem, hi]
  by_cases h1 : a1 = b1 <;> by_cases h2 : a2 = b2 <;> simp [h1, h2]
theorem findAsking_way {P : Program} {kt : TypeId} (heq : ∀ (a b : Nat × Nat) (w : World), (Op.equal kt (wayV a) (wayV b)).run P w = .ok (decide (a = b)) w) :
    ∀ (l : List ((Nat × Nat) × Value)) (es : List MapEntry) (i : Nat) (k : Nat × Nat) (w : World), es.map (fun e => (e.key, e.val)) = l.map (fun x => (wayV x.1, x.2)) → (Instr.findAsking kt (wayV k) es i).run P w = .ok (findAt k l i) w
  | [], [], _, _, _, _ => by simp [Instr.findAsking, findAt]
  | [], _ :: _, _, _, _, h => by cases h
  | _ :: _, [], _, _, _, h => by cases h
  | x :: l, e :: es, i, k, w, h => by
    simp only [List.map_cons, List.cons.injEq, Prod.mk.injEq] at h
    obtain ⟨⟨h1, h2⟩, h3⟩ := h
    have ih := findAsking_way heq l es (i + 1) k w h3
    unfold Instr.findAsking findAt
    rw [h1, h2]
    by_cases hk : k = x.1
    · simp [heq, hk, Result.andThen]
    · simp [heq, hk, Result.andThen, ih]
theorem findNow_way (fs : Array Field) (k : Nat × Nat) : ∀ es : List MapEntry, es ≠ [] → Instr.findNow (.struct fs) (wayV k) es 0 = none
  | [], h => absurd rfl h
  | e :: es, _ => by
    unfold Instr.findNow
    rfl
theorem wayKey : KeyLaw Try.prog 48 wayV := by
  refine ⟨fun b k w => ?_, fun k es l w hl => ?_⟩
  · rw [show (10000 : Nat) = 9998 + 1 + 1 from rfl, wayV]
    unfold Instr.checkKey
    simp only [Sem.run_bind, run_underlying Try.underlying48, Result.andThen]
    have h9 (a : Int) : (Instr.checkKey b 9999 2 (.int .i64 a)).run Try.prog w = .ok () w := by
      rw [show (9999 : Nat) = 9998 + 1 from rfl]
      unfold Instr.checkKey
      simp only [Sem.run_bind, run_underlying Try.underlying2, Result.andThen]
      rfl
    simp [part, go_sem, h9, Result.andThen]
  · have h1 := findAsking_way way_equal l es 0 k w hl
    by_cases he : es = []
    · subst he
      cases l with
      | nil => simp [Instr.findKey, run_underlying Try.underlying48, Instr.findNow, findAt]
      | cons _ _ => cases hl
    · simp [Instr.findKey, run_underlying Try.underlying48, findNow_way _ _ _ he, h1]
theorem way_stays (k : Nat × Nat) (w : World) : (Instr.keyThatStays (wayV k) (wayV k)).run Try.prog w = .ok (wayV k) w := by
  have hs : Instr.sameBits 10000 (wayV k) (wayV k) = true := by
    rw [show (10000 : Nat) = 9998 + 1 + 1 from rfl, wayV]
    simp [Instr.sameBits]
  simp [Instr.keyThatStays, hs]
/-- Counts, one more of a key. -/
def bumpN (k : Nat × Nat) : List ((Nat × Nat) × Nat) → List ((Nat × Nat) × Nat)
  | [] => [(k, 1)]
  | x :: r => if k = x.1 then (x.1, x.2 + 1) :: r else x :: bumpN k r
def cntN (k : Nat × Nat) : List ((Nat × Nat) × Nat) → Nat
  | [] => 0
  | x :: r => if k = x.1 then x.2 else cntN k r
def valsN (l : List ((Nat × Nat) × Nat)) : List ((Nat × Nat) × Value) := l.map fun x => (x.1, Value.int .i64 (x.2 : Int))
def sumN (f : Nat × Nat → Nat) (l : List ((Nat × Nat) × Nat)) : Nat := (l.map fun x => x.2 * f x.1).sum
theorem sum_bump (f : Nat × Nat → Nat) (k : Nat × Nat) : ∀ l, sumN f (bumpN k l) = sumN f l + f k
  | [] => by simp [bumpN, sumN]
  | x :: r => by
    rw [bumpN]
    split
    · rename_i h
      subst h
      simp only [sumN, List.map_cons, List.sum_cons, Nat.add_mul, Nat.one_mul]
      omega
    · have := sum_bump f k r
      simp only [sumN, List.map_cons, List.sum_cons] at this ⊢
      omega
/-- Where a key is found. -/
theorem findAt_vals (k : Nat × Nat) : ∀ (l : List ((Nat × Nat) × Nat)) (i : Nat), (findAt k (valsN l) i = none ∧ cntN k l = 0 ∧ bumpN k l = l ++ [(k, 1)]) ∨
    ∃ j n : Nat, findAt k (valsN l) i = some (i + j, .int .i64 (n : Int)) ∧ l[j]? = some (k, n) ∧ cntN k l = n ∧ bumpN k l = l.set j (k, n + 1)
  | [], i => .inl ⟨rfl, rfl, rfl⟩
  | x :: r, i => by
    by_cases h : k = x.1
    · refine .inr ⟨0, x.2, ?_, ?_, ?_, ?_⟩
      · simp [valsN, findAt, h]
      · simp [h]
      · simp [cntN, h]
      · simp [bumpN, h]
    · rcases findAt_vals k r (i + 1) with ⟨h1, h2, h3⟩ | ⟨j, n, h1, h2, h3, h4⟩
      · refine .inl ⟨?_, ?_, ?_⟩
        · simp only [valsN, List.map_cons, findAt, if_neg h]; exact h1
        · simp [cntN, h, h2]
        · simp [bumpN, h, h3]
      · refine .inr ⟨j + 1, n, ?_, ?_, ?_, ?_⟩
        · simp only [valsN, List.map_cons, findAt, if_neg h]
          rw [show i + (j + 1) = i + 1 + j by omega]
          exact h1
        · simpa using h2
        · simp [cntN, h, h3]
        · simp [bumpN, h, h4]
theorem vals_val (k : Nat × Nat) : ∀ l, (valOf k (valsN l)).getD (.int .i64 0) = .int .i64 (cntN k l : Int)
  | [] => rfl
  | x :: r => by
    simp only [valsN, List.map_cons, valOf, cntN]
    split
    · rfl
    · exact vals_val k r
set_option maxRecDepth 100000 in
/-- One more of a key: the entry, then the store; a look-up gives the same before and behind the entry. -/
theorem MapIs.bump {w : World} {r : Nat} {l : List ((Nat × Nat) × Nat)} (h : MapIs wayV w r (valsN l)) (k : Nat × Nat) :
    ∃ (st : Nat) (w1 : World), (Instr.mapEntry 42 (.map (some r)) (wayV k)).run Try.prog w = .ok (.tuple #[.int .i64 (cntN k l : Int), .int .i64 (st : Int)]) w1 ∧
      (Instr.lookup 42 (.map (some r)) (wayV k) false).run Try.prog w = .ok (.int .i64 (cntN k l : Int)) w ∧
      (Instr.lookup 42 (.map (some r)) (wayV k) false).run Try.prog w1 = .ok (.int .i64 (cntN k l : Int)) w1 ∧ w.grownBy w1 (some r) ∧
      ∃ w2, (Instr.entryStore 42 (.map (some r)) (.int .i64 (st : Int)) (.int .i64 ((cntN k l : Int) + 1))).run Try.prog w1 = .ok () w2 ∧ MapIs wayV w2 r (valsN (bumpN k l)) ∧ w1.grownBy w2 (some r) := by
  have K := wayKey
  have ht := Try.underlying42
  have hz : ∀ W : World, (zeroValue 2).run Try.prog W = .ok (.int .i64 0) W := fun W => by kernel_rfl
  have hlk := h.look1 K ht (hz w) k
  rw [vals_val] at hlk
  obtain ⟨es, c, hb, hl, hbn, hnd⟩ := h
  have h1 := K.check false k w
  have h2 := K.find k es.toList (valsN l) w hl
  have hgr : ∀ (W : World) (o : Obj), r < W.heap.size → W.grownBy (setBlock W r o) (some r) := fun W o hr => ⟨rfl, rfl, rfl, by simp [setBlock], fun i _ hi => setBlock_else _ (fun e => hi (by rw [e]))⟩
  have hr : r < w.heap.size := (Array.getElem?_eq_some_iff.1 hb).1
  have hll := congrArg List.length hl
  simp only [List.length_map, valsN] at hll
  rcases findAt_vals k l 0 with ⟨f1, f2, f3⟩ | ⟨j, n, f1, f2, f3, f4⟩
  · rw [f1] at h2
    have hb1 : (setBlock w r (.map (es.push ⟨wayV k, .int .i64 0, c⟩) (c + 1))).heap[r]? = some (.map (es.push ⟨wayV k, .int .i64 0, c⟩) (c + 1)) := heap_setBlock_same hb _
    have hnd1 : ((es.push ⟨wayV k, .int .i64 0, c⟩).toList.map (·.born)).Nodup := by
      simp only [Array.toList_push, List.map_append, List.map_cons, List.map_nil]
      refine List.nodup_append.2 ⟨hnd, by simp, fun a ha d hd e1 => ?_⟩
      simp only [List.mem_singleton] at hd
      obtain ⟨x, hx, rfl⟩ := List.mem_map.1 ha
      have := hbn x hx
      omega
    have hbn1 : ∀ v, ∀ x ∈ (es.push ⟨wayV k, v, c⟩).toList, x.born < c + 1 := fun v x hx => by
      simp only [Array.toList_push, List.mem_append, List.mem_singleton] at hx
      rcases hx with hx | rfl
      · exact Nat.lt_succ_of_lt (hbn x hx)
      · exact Nat.lt_succ_self _
    have hM1 : MapIs wayV (setBlock w r (.map (es.push ⟨wayV k, .int .i64 0, c⟩) (c + 1))) r (valsN (l ++ [(k, 0)])) :=
      ⟨_, _, hb1, by simp [hl, valsN], hbn1 _, hnd1⟩
    have hlk1 := hM1.look1 K ht (hz _) k
    have hcnt : ∀ l : List ((Nat × Nat) × Nat), cntN k l = 0 → cntN k (l ++ [(k, 0)]) = 0 := fun l => by
      induction l with
      | nil => intro _; simp [cntN]
      | cons x r ih =>
        intro hh
        simp only [List.cons_append, cntN] at hh ⊢
        split
        · rename_i h3; rw [if_pos h3] at hh; exact hh
        · rename_i h3; rw [if_neg h3] at hh; exact ih hh
    rw [vals_val, hcnt l f2] at hlk1
    rw [f2]
    have hme : (Instr.mapEntry 42 (.map (some r)) (wayV k)).run Try.prog w = .ok (.tuple #[.int .i64 ((0 : Nat) : Int), .int .i64 (c : Int)]) (setBlock w r (.map (es.push ⟨wayV k, .int .i64 0, c⟩) (c + 1))) := by
      simp [Instr.mapEntry, run_underlying ht, MapKept.run_getObj_map hb, h1, h2, hz, MapKept.run_setObj_map _ hb, Result.andThen, setBlock, goInt]
    have hg1 := hgr w (.map (es.push ⟨wayV k, .int .i64 0, c⟩) (c + 1)) hr
    have hr1 : r < (setBlock w r (.map (es.push ⟨wayV k, .int .i64 0, c⟩) (c + 1))).heap.size := by simp [setBlock]; exact hr
    obtain ⟨W1, hW1⟩ : ∃ W1, setBlock w r (.map (es.push ⟨wayV k, .int .i64 0, c⟩) (c + 1)) = W1 := ⟨_, rfl⟩
    rw [hW1] at hme hg1 hr1 hb1 hlk1
    clear hM1 hW1
    refine ⟨c, W1, hme, by rw [f2] at hlk; exact hlk, hlk1, hg1, setBlock W1 r (.map (es.push ⟨wayV k, .int .i64 1, c⟩) (c + 1)), ?_, ?_, hgr _ _ hr1⟩
    · show (Instr.entryStore _ _ _ (.int .i64 (((0 : Nat) : Int) + 1))).run Try.prog W1 = _
      rw [show (((0 : Nat) : Int) + 1) = 1 from rfl]
      have hidx : (es.push ⟨wayV k, .int .i64 0, c⟩).findIdx? (fun e => ((e.born : Nat) : Int) == ((c : Nat) : Int)) = some es.size := by
        rw [WideElems.findIdx_arr]
        exact WideElems.findIdx_born (l := (es.push ⟨wayV k, .int .i64 0, c⟩).toList) (j := es.size) (e0 := ⟨wayV k, .int .i64 0, c⟩) hnd1 (by simp)
      have hmod : (es.push ⟨wayV k, .int .i64 0, c⟩).modify es.size (fun e => { e with val := .int .i64 1 }) = es.push ⟨wayV k, .int .i64 1, c⟩ := by
        apply Array.ext'
        rw [Array.toList_modify, Array.toList_push, Array.toList_push, ← Array.length_toList, WideElems.modify_last]
      simp [Instr.entryStore, MapKept.run_getObj_map hb1, asInt, asIntOf, hidx, hmod, MapKept.run_setObj_map _ hb1, Result.andThen, setBlock]
    · refine ⟨_, _, heap_setBlock_same hb1 _, ?_, hbn1 _, ?_⟩
      · rw [f3]; simp [hl, valsN]
      · simpa using hnd1
  · rw [f1] at h2
    simp only [Nat.zero_add] at h2
    have hj : j < l.length := (List.getElem?_eq_some_iff.1 f2).1
    obtain ⟨e0, he0⟩ : ∃ e0, es.toList[j]? = some e0 := ⟨_, List.getElem?_eq_getElem (by omega)⟩
    have hev : (e0.key, e0.val) = (wayV k, .int .i64 (n : Int)) := by
      have h5 : (es.toList.map (fun e => (e.key, e.val)))[j]? = ((valsN l).map (fun x => (wayV x.1, x.2)))[j]? := by rw [hl]
      rw [List.getElem?_map, he0, List.getElem?_map, valsN, List.getElem?_map, f2] at h5
      simpa using h5
    have hk0 : e0.key = wayV k := (Prod.mk.inj hev).1
    have hv0 : e0.val = .int .i64 (n : Int) := (Prod.mk.inj hev).2
    have hj2 : es[j]? = some e0 := by simpa using he0
    have hsame : es.modify j (fun e => { e with key := wayV k }) = es := by
      apply Array.ext'
      rw [Array.toList_modify, modify_eq_set _ _ _ _ he0]
      have : ({ e0 with key := wayV k } : MapEntry) = e0 := by rw [← hk0]
      rw [this]
      exact WideElems.set_self _ _ _ he0
    have hst := way_stays k w
    have hsb : setBlock w r (.map es c) = w := by
      cases w
      simp only [setBlock]
      congr 1
      apply Array.ext'
      simp only [Array.toList_setIfInBounds]
      exact WideElems.set_self _ _ _ (by simpa using hb)
    rw [f3]
    rw [f3] at hlk
    refine ⟨e0.born, w, ?_, hlk, hlk, grown_refl _ _, setBlock w r (.map (es.modify j (fun e => { e with val := .int .i64 ((n : Int) + 1) })) c), ?_, ?_, hgr w _ hr⟩
    · have hrun : (Instr.mapEntry 42 (.map (some r)) (wayV k)).run Try.prog w = .ok (.tuple #[.int .i64 (n : Int), goInt e0.born]) (setBlock w r (.map es c)) := by
        simp [Instr.mapEntry, run_underlying ht, MapKept.run_getObj_map hb, h1, h2, hj2, hk0, hst, hsame, MapKept.run_setObj_map _ hb, Result.andThen, setBlock]
      rw [hsb] at hrun
      exact hrun
    · have hidx : es.findIdx? (fun e => ((e.born : Nat) : Int) == ((e0.born : Nat) : Int)) = some j := by
        rw [WideElems.findIdx_arr]
        exact WideElems.findIdx_born hnd he0
      simp [Instr.entryStore, MapKept.run_getObj_map hb, asInt, asIntOf, hidx, MapKept.run_setObj_map _ hb, Result.andThen, setBlock]
    · have hlst : (es.modify j (fun e => { e with val := .int .i64 ((n : Int) + 1) })).toList = es.toList.set j { e0 with val := .int .i64 ((n : Int) + 1) } := by
        rw [Array.toList_modify, modify_eq_set _ _ _ _ he0]
      refine ⟨_, _, heap_setBlock_same hb _, ?_, ?_, ?_⟩
      · rw [hlst, List.map_set, hl, f4]
        simp [valsN, List.map_set, hk0]
      · intro x hx
        rw [hlst] at hx
        rcases List.mem_or_eq_of_mem_set hx with h6 | h6
        · exact hbn x h6
        · rw [h6]; exact hbn e0 (List.mem_of_getElem? he0)
      · rw [hlst, List.map_set]
        have : (es.toList.map (·.born)).set j ({ e0 with val := .int .i64 ((n : Int) + 1) } : MapEntry).born = es.toList.map (·.born) := WideElems.set_self _ _ _ (by rw [List.getElem?_map, he0]; rfl)
        rw [this]
        exact hnd
end Go.Proofs.Ytijelimpkcnbjaa
