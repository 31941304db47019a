/- The starts of words: the program's, which ranges over an iterator in a loop. -/
import Derived.Test.YtijelimpkcnbjaaRf0
import Derived.Test.YtijelimpkcnbjaaTs1
import Derived.Test.YtijelimpkcnbjaaTm8
import Derived.Test.YtijelimpkcnbjaaRf1
import Derived.Deep.MidRow
namespace Go.Proofs.Ytijelimpkcnbjaa
open Go.RowKit Go.ChangeShapes Go.WideShapes Go.Deep Go.Shelf
set_option linter.unusedVariables false
set_option linter.unusedSimpArgs false
attribute [local go_sem] Oper.semAt_some

theorem ltF_at (s : ByteArray) : ∀ k, (ltF s k).2 = k ↔ (k = 0 ∨ ¬ (bAt s (k - 1)).toNat = 32)
  | 0 => by simp [ltF]
  | k + 1 => by
    have h := (ltF_le s k).1
    rw [ltF]
    split
    · rename_i h32
      simp only [Nat.add_sub_cancel, h32]
      constructor
      · intro e; omega
      · rintro (e | e)
        · omega
        · exact absurd trivial e
    · rename_i h32
      simp [h32]
/-- Does a letter begin a word? -/
def begL (x : Ltr) : Bool := !decide (x.fr = x.col) || decide (x.col = 0)
def begR (x : Nat × Nat × UInt8) : Bool := !decide (x.1 = x.2.1) || decide (x.2.1 = 0)
theorem beg_raw (s : ByteArray) (c : Nat) : ∀ k, k ≤ s.size → ((ltF s k).1.any fun x => begR x && decide (x.2.1 = c)) = (startQ s c && decide (c < k))
  | 0, _ => by simp [ltF]
  | k + 1, hk => by
    have ih := beg_raw s c k (by omega)
    have ha := ltF_at s k
    rw [ltF]
    by_cases h32 : (bAt s k).toNat = 32
    · rw [if_pos h32, ih]
      by_cases hc : c = k
      · subst hc; simp [startQ, h32]
      · congr 1
        exact decide_eq_decide.2 (by omega)
    · rw [if_neg h32]
      simp only [List.any_append, ih, List.any_cons, List.any_nil, Bool.or_false]
      by_cases hc : c = k
      · subst hc
        have hlt : c < s.size := by omega
        simp only [Nat.lt_irrefl, decide_false, Bool.and_false, Bool.false_or, decide_true, Bool.and_true, Nat.lt_succ_self, startQ, begR, decide_eq_true hlt, decide_eq_false h32, Bool.not_false, Bool.true_and]
        by_cases h0 : c = 0
        · subst h0; simp [ltF]
        · simp only [decide_eq_false h0, Bool.or_false, Bool.false_or]
          by_cases h1 : (bAt s (c - 1)).toNat = 32
          · have : ¬ (ltF s c).2 = c := fun e => by rcases ha.1 e with e1 | e1 <;> contradiction
            simp [h1, this]
          · have : (ltF s c).2 = c := ha.2 (.inr h1)
            simp [h1, this]
      · rw [decide_eq_false (fun e : k = c => hc e.symm), Bool.and_false, Bool.or_false]
        congr 1
        exact decide_eq_decide.2 (by omega)
theorem beg_all {s : ByteArray} {xs : List Ltr} (h : xs.map Ltr.raw = (ltF s s.size).1) (c : Nat) : (xs.any fun x => begL x && decide (x.col = c)) = startQ s c := by
  have h1 := beg_raw s c s.size (Nat.le_refl _)
  rw [← h, List.any_map] at h1
  have h2 : (startQ s c && decide (c < s.size)) = startQ s c := by
    by_cases hc : c < s.size
    · simp [hc]
    · simp [startQ, hc]
  rw [h2] at h1
  rw [← h1]
  rfl
def defC (D : Nat) : Deferred := { target := .collected D, args := #[] }
def DefsAt (Ds : List Nat) (W : World) : Prop := ∀ D ∈ Ds, W.heap[D]? = some (.deferred (some []))
theorem defs_own {β : Type} {Ds : List Nat} {W0 : World} (h : DefsAt Ds W0) : OwnFrom W0.heap.size (fun (_ : β) W => DefsAt Ds W) := fun _ X Y row hs hg hr D hD => by
  have h0 := (Array.getElem?_eq_some_iff.1 (h D hD)).1
  have h1 := hs D hD
  exact (hg.block D (Array.getElem?_eq_some_iff.1 h1).1 (fun e => by have := (hr D e.symm).1; omega)).trans h1
theorem DefsAt.others {Ds : List Nat} {W W' : World} (h : DefsAt Ds W) (hk : KeepsOthers W W') : DefsAt Ds W' := fun D hD => hk.same D _ (h D hD) rfl
/-- The deferred calls of all loops are taken: there are none. -/
theorem leaves_all {F : Fence} {n : Nat} {P : Program} {fn : Func} {tmps : Array Value} {R : Ending → World → Prop} {u : FrameMode} (hu : u ≠ .run) {B : Nat} : ∀ (Ds : List Nat) (W : World), Ds.Nodup → DefsAt Ds W → (∀ D ∈ Ds, B ≤ D) →
    (∀ W', Below B W W' → (∀ (k : Nat) (o : Obj), W.heap[k]? = some o → o.isCells = true → W'.heap[k]? = some o) → LeavesInM F n P fn tmps R [] u W') → LeavesInM F n P fn tmps R (Ds.map defC) u W
  | [], W, _, _, _, h => h W (Below.refl _ _) (fun _ _ hk _ => hk)
  | D :: Ds, W, hnd, hD, hB, h => by
    have h1 := hD D (by simp)
    have hnd2 := List.nodup_cons.1 hnd
    have hoth : ∀ k, k ≠ D → (W.putObj D (.deferred none)).heap[k]? = W.heap[k]? := fun k hk => World.putObj_heap_other hk
    have hb1 : Below B W (W.putObj D (.deferred none)) := (Below.refl B W).grown (grownBy_putObj' W D _) (by have := (Array.getElem?_eq_some_iff.1 h1).1; have := hB D (by simp); omega) (fun k e => by cases e; exact hB D (by simp))
    refine ⟨hu, .inl ⟨D, _, rfl, run_takeDeferred h1, ?_⟩⟩
    refine leaves_all hu Ds _ hnd2.2 (fun D' hD' => ?_) (fun D' hD' => hB D' (by simp [hD'])) (fun W' hb hk => h W' (hb1.trans hb) (fun k o hko ho => ?_))
    · rw [hoth D' (fun e => hnd2.1 (e ▸ hD'))]
      exact hD D' (by simp [hD'])
    · refine hk k o ?_ ho
      rw [hoth k (fun e => ?_)]
      · exact hko
      · subst e
        rw [h1] at hko
        cases hko
        cases ho
theorem owns_cellsK {w w' : World} {base : Nat} {E : TypeId} {size n : Nat} {v : Value} {xs : List Value} (h : w.ownsRow base E size v n xs) (hk : ∀ (k : Nat) (o : Obj), w.heap[k]? = some o → o.isCells = true → w'.heap[k]? = some o) : w'.ownsRow base E size v n xs := by
  obtain ⟨h1, h2 | ⟨g', cap, cur, h3, h4, h5, h6⟩⟩ := h
  · exact ⟨h1, .inl h2⟩
  · exact ⟨h1, .inr ⟨g', cap, cur, h3, h4, hk _ _ h5 rfl, h6⟩⟩
def colK (R : Nat → Bool) (k : Nat) : List Int := ((List.range' 0 k).filter R).map (fun c : Nat => (c : Int))
theorem wpListIn_load_mid {F : Fence} {m : Nat} {P : Program} {w : World} {ops : Array Oper} {rest : List Oper} {o : Oper} {a : Act} {Q : Exit → Act → World → Prop} (hgd : o.guard = none) (ty : TypeId) (x : Operand) (ho : o.op = .load ty x)
    (cs : Array Value) (p : Option Addr) (hx : a.eval x = .pointer p) (hld : (Instr.loadAt ty (.pointer p)).run P w = .ok (.agg cs) w)
    (hK : wpListIn F m P ops Q rest (a.put o.dst (.agg cs)) w) : wpListIn F m P ops Q (o :: rest) a w := by
  refine wpListIn_plain hgd fun K hK' => ?_
  unfold Oper.wpIn
  refine ⟨?_, ?_⟩
  · simp [Oper.about, ho]
  · rw [Oper.semAt_plain F _ _ (by rw [ho]; intro c hc'; cases hc')]
    simp only [execOp, ho, hx, Sem.run_bind, hld, Result.andThen_ok, Sem.run_pure]
    exact hK' _ _ hK
theorem colK_succ (R : Nat → Bool) (k : Nat) : colK R (k + 1) = colK R k ++ (if R k = true then [(k : Int)] else []) := by
  rw [colK, colK, List.range'_concat, List.filter_append, List.map_append]
  simp only [Nat.zero_add, Nat.one_mul]
  cases h : R k <;> simp [h]
theorem colK_len (R : Nat → Bool) (k : Nat) : (colK R k).length ≤ k := by
  rw [colK, List.length_map]
  exact Nat.le_trans (List.length_filter_le _ _) (by simp)
theorem list30 (R : Nat → Bool) {k : Nat} (h : k < 30) : [Value.bool (R 0), Value.bool (R 1), Value.bool (R 2), Value.bool (R 3), Value.bool (R 4), Value.bool (R 5), Value.bool (R 6), Value.bool (R 7), Value.bool (R 8), Value.bool (R 9), Value.bool (R 10), Value.bool (R 11), Value.bool (R 12), Value.bool (R 13), Value.bool (R 14), Value.bool (R 15), Value.bool (R 16), Value.bool (R 17), Value.bool (R 18), Value.bool (R 19), Value.bool (R 20), Value.bool (R 21), Value.bool (R 22), Value.bool (R 23), Value.bool (R 24), Value.bool (R 25), Value.bool (R 26), Value.bool (R 27), Value.bool (R 28), Value.bool (R 29)][k]? = some (Value.bool (R k)) := by
  have e : ((List.range 30).map fun j => Value.bool (R j))[k]? = some (Value.bool (R k)) := by simp [h]
  exact e
end Go.Proofs.Ytijelimpkcnbjaa
