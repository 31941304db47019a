/- The best breaks: the program's endings, which a map keeps. -/
import Derived.Test.YtcaojaaooadeaaaLn16
import Derived.Test.YtcaojaaooadeaaaMapOps
namespace Go.Proofs.Ytcaojaaooadeaaa
open Go.RowKit Go.ChangeShapes Go.WideShapes Go.Deep
set_option linter.unusedVariables false
set_option linter.unusedSimpArgs false

def encN (k : Nat) : Value := .int .i64 (k : Int)
theorem findNow_nat : ∀ (l : List (Nat × Value)) (es : List MapEntry) (i : Nat) (k : Nat), es.map (fun e => (e.key, e.val)) = l.map (fun x => (encN x.1, x.2)) → Instr.findNow (.int .i64) (encN k) es i = some (findAt k l i)
  | [], [], _, _, _ => rfl
  | [], _ :: _, _, _, h => by cases h
  | _ :: _, [], _, _, h => by cases h
  | x :: l, e :: es, i, k, h => by
    simp only [List.map_cons, List.cons.injEq, Prod.mk.injEq] at h
    obtain ⟨⟨h1, h2⟩, h3⟩ := h
    have ih := findNow_nat l es (i + 1) k h3
    unfold Instr.findNow findAt
    rw [h1, h2, ih]
    by_cases hk : k = x.1
    · rw [if_pos hk]
      have : Instr.sameNow (.int .i64) (encN k) (encN x.1) = some true := by simp [encN, Instr.sameNow, hk]
      rw [this]
    · rw [if_neg hk]
      have hn : ¬ ((k : Int) = (x.1 : Int)) := fun e => hk (by omega)
      have : Instr.sameNow (.int .i64) (encN k) (encN x.1) = some false := by simp [encN, Instr.sameNow]; exact hn
      rw [this]
theorem natKey {P : Program} {kt : TypeId} (h : P.underlying kt = some (.int .i64)) : KeyLaw P kt encN := by
  refine ⟨fun b k w => ?_, fun k es l w hl => ?_⟩
  · rw [show (10000 : Nat) = 9999 + 1 from rfl]
    unfold Instr.checkKey
    simp only [Sem.run_bind, run_underlying h, Result.andThen]
    rfl
  · have h1 := findNow_nat l es 0 k hl
    simp [Instr.findKey, run_underlying h, h1]
theorem natKey9 : KeyLaw Try.prog 3 encN := natKey Try.underlying3
theorem zero_end9 (w : World) : (zeroValue 61).run Try.prog w = .ok (.agg #[.int .i64 0, .int .i64 0]) w := by kernel_rfl
theorem valOf_app9 {κ : Type} [DecidableEq κ] (k : κ) : ∀ (a b : List (κ × Value)), valOf k (a ++ b) = (valOf k a).or (valOf k b)
  | [], b => by simp [valOf]
  | x :: a, b => by
    simp only [List.cons_append, valOf]
    split
    · rfl
    · exact valOf_app9 k a b
def endV (W : Nat) (ws : List ByteArray) (i : Nat) : Value := .agg #[.int .i64 (endE W ws i).1, .int .i64 ((endE W ws i).2 : Int)]
def MInv (W : Nat) (ws : List ByteArray) (l : List (Nat × Value)) : Prop := ∀ k v, valOf k l = some v → v = endV W ws k
def EnOut (W : Nat) (ws : List ByteArray) (i M : Nat) (l : List (Nat × Value)) (w : World) (e : Ending) (w' : World) : Prop :=
  e = .returned (endV W ws i) ∧ ∃ l', MapIs encN w' M l' ∧ MInv W ws l' ∧ (∀ j, j < i → valOf j l' = valOf j l) ∧ w.grownBy w' (some M)
theorem MapIs.grown9 {w w' : World} {M : Nat} {l : List (Nat × Value)} (h : MapIs encN w M l) (hb : Below w.heap.size w w') : MapIs encN w' M l := h.below hb h.lt
theorem MInv.put {W : Nat} {ws : List ByteArray} {l : List (Nat × Value)} {i : Nat} (h : MInv W ws l) : MInv W ws (l ++ [(i, endV W ws i)]) := fun k v hv => by
  rw [valOf_app9] at hv
  cases h1 : valOf k l with
  | some u => rw [h1] at hv; simp at hv; subst hv; exact h k u h1
  | none =>
    rw [h1] at hv
    simp only [valOf, Option.none_or] at hv
    split at hv
    · rename_i hk; cases hv; rw [hk]
    · cases hv
set_option maxRecDepth 100000 in
set_option maxHeartbeats 6400000 in
/-- An ending that is known. -/
theorem known9 (A : Option Addr) (n c : Nat) (ws : List ByteArray) (W M i : Nat) (w : World) (l : List (Nat × Value)) (hM : MapIs encN w M l) (hinv : MInv W ws l) (hv : (valOf i l).isSome = true) :
    Calls Try.prog 51 #[.agg #[.slice A n c, .int .i64 (W : Int), .map (some M)], .int .i64 (i : Int)] w (EnOut W ws i M l w) := by
  obtain ⟨v, hv1⟩ := Option.isSome_iff_exists.1 hv
  have hvv := hinv i v hv1
  obtain ⟨e1, he1⟩ : ∃ e, (endE W ws i).1 = e := ⟨_, rfl⟩
  obtain ⟨e2, he2⟩ : ∃ e : Int, ((endE W ws i).2 : Int) = e := ⟨_, rfl⟩
  rw [endV, he1, he2] at hvv
  have hres : Hid (endV W ws i = .agg #[.int .i64 e1, .int .i64 e2]) := Lib.hid (by rw [endV, he1, he2])
  have hval : Hid ((valOf i l).getD (.agg #[.int .i64 0, .int .i64 0]) = .agg #[.int .i64 e1, .int .i64 e2]) := Lib.hid (by rw [hv1, hvv]; rfl)
  have hok : Hid ((valOf i l).isSome = true) := Lib.hid hv
  have hbe := below_a2 w (.cells #[.slice A n c, .int .i64 (W : Int), .map (some M)] 59) (.cells #[.int .i64 0, .int .i64 0] 61)
  have hM2 := hM.grown9 hbe
  have hM0 := Lib.hid hM
  have hi0 := Lib.hid hinv
  clear hbe hv hv1 hvv he1 he2 hM hinv
  go_enter Try.func51, Try.ntmps51
  go_wp2_with (at_lookup; refine wpList_look_is rfl _ _ _ 3 61 rfl natKey9 Try.underlying57 (zero_end9 _) rfl hM2 i rfl hval.out hok.out ?_)
  have z0 : (((w.alloc (.cells #[.slice A n c, .int .i64 (W : Int), .map (some M)] 59)).alloc (.cells #[.int .i64 e1, .int .i64 e2] 61)).alloc (.cells #[.int .i64 e1, .int .i64 e2] 61)).cell? ⟨w.heap.size + 1, 0, none⟩ = some (.int .i64 e1) := cell_on (cell_new (by simp) rfl) _
  have z1 : (((w.alloc (.cells #[.slice A n c, .int .i64 (W : Int), .map (some M)] 59)).alloc (.cells #[.int .i64 e1, .int .i64 e2] 61)).alloc (.cells #[.int .i64 e1, .int .i64 e2] 61)).cell? ⟨w.heap.size + 1, 1, none⟩ = some (.int .i64 e2) := cell_on (cell_new (by simp) rfl) _
  have hb9 := below_a3 w (.cells #[.slice A n c, .int .i64 (W : Int), .map (some M)] 59) (.cells #[.int .i64 e1, .int .i64 e2] 61) (.cells #[.int .i64 e1, .int .i64 e2] 61)
  generalize ((w.alloc (.cells #[.slice A n c, .int .i64 (W : Int), .map (some M)] 59)).alloc (.cells #[.int .i64 e1, .int .i64 e2] 61)).alloc (.cells #[.int .i64 e1, .int .i64 e2] 61) = w9 at *
  refine bodyPost_ret (v := .agg #[.int .i64 e1, .int .i64 e2]) (by simp [results, Try.results51, go_sem, z0, z1]) rfl ?_
  exact ⟨by rw [hres.out], l, hM0.out.grown9 hb9, hi0.out, fun _ _ => rfl, grown_below hb9 _⟩

/-- What holds while an ending is sought. -/
structure ES (W : Nat) (ws : List ByteArray) (A : Option Addr) (n c M i : Nat) (l : List (Nat × Value)) (w : World) (B : Nat) (bv bn : Int) (wi : World) : Prop where
  box : wi.heap[w.heap.size]? = some (.cells #[.slice A n c, .int .i64 (W : Int), .map (some M)] 59)
  res : wi.heap[w.heap.size + 1]? = some (.cells #[.int .i64 0, .int .i64 0] 61)
  best : wi.heap[B]? = some (.cells #[.int .i64 bv, .int .i64 bn] 61)
  st : Strs wi A n ws
  map : ∃ l', MapIs encN wi M l' ∧ MInv W ws l' ∧ (∀ j, j ≤ i → valOf j l' = valOf j l)
  gr : w.grownBy wi (some M)
  lo : w.heap.size + 2 ≤ B
  ml : M < w.heap.size
  ne : ∀ p, A = some p → p.block < w.heap.size ∧ p.block ≠ M
section
variable {W : Nat} {ws : List ByteArray} {A : Option Addr} {n c M i : Nat} {l : List (Nat × Value)} {w : World} {B : Nat} {bv bn : Int} {wi wj : World}
theorem ES.hi (h : ES W ws A n c M i l w B bv bn wi) : B < wi.heap.size := own_lt h.best
theorem ES.c0 (h : ES W ws A n c M i l w B bv bn wi) : wi.cell? ⟨w.heap.size, 0, none⟩ = some (.slice A n c) := own_cell h.box rfl
theorem ES.c1 (h : ES W ws A n c M i l w B bv bn wi) : wi.cell? ⟨w.heap.size, 1, none⟩ = some (.int .i64 (W : Int)) := own_cell h.box rfl
theorem ES.c2 (h : ES W ws A n c M i l w B bv bn wi) : wi.cell? ⟨w.heap.size, 2, none⟩ = some (.map (some M)) := own_cell h.box rfl
theorem ES.b0 (h : ES W ws A n c M i l w B bv bn wi) : wi.cell? ⟨B, 0, none⟩ = some (.int .i64 bv) := own_cell h.best rfl
theorem ES.b1 (h : ES W ws A n c M i l w B bv bn wi) : wi.cell? ⟨B, 1, none⟩ = some (.int .i64 bn) := own_cell h.best rfl
theorem ES.r0 (h : ES W ws A n c M i l w B bv bn wi) : wi.cell? ⟨w.heap.size + 1, 0, none⟩ = some (.int .i64 0) := own_cell h.res rfl
theorem ES.r1 (h : ES W ws A n c M i l w B bv bn wi) : wi.cell? ⟨w.heap.size + 1, 1, none⟩ = some (.int .i64 0) := own_cell h.res rfl
theorem ES.below (h : ES W ws A n c M i l w B bv bn wi) (hb : Below wi.heap.size wi wj) : ES W ws A n c M i l w B bv bn wj := by
  obtain ⟨h1, h2, h3, h4, ⟨l', m1, m2, m3⟩, h6, h7, h8, h9⟩ := h
  exact ⟨(hb.block _ (own_lt h1)).trans h1, (hb.block _ (own_lt h2)).trans h2, (hb.block _ (own_lt h3)).trans h3, h4.below hb, ⟨l', m1.grown9 hb, m2, m3⟩, grown_trans h6 (grown_below hb _), h7, h8, h9⟩
theorem ES.grown (h : ES W ws A n c M i l w B bv bn wi) {l' : List (Nat × Value)} (hg : wi.grownBy wj (some M)) (m1 : MapIs encN wj M l') (m2 : MInv W ws l') (m3 : ∀ j, j ≤ i → valOf j l' = valOf j l) : ES W ws A n c M i l w B bv bn wj := by
  obtain ⟨h1, h2, h3, h4, _, h6, h7, h8, h9⟩ := h
  have k1 := own_lt h1
  refine ⟨(hg.block _ (own_lt h1) (by simp; omega)).trans h1, (hg.block _ (own_lt h2) (by simp; omega)).trans h2, (hg.block _ (own_lt h3) (by simp; omega)).trans h3, ?_, ⟨l', m1, m2, m3⟩, grown_trans h6 hg, h7, h8, h9⟩
  exact SRow.kept (B := some ⟨M, 0, none⟩) h4 hg (fun p q hp hq => by cases hq; exact (h9 p hp).2)
theorem grown_set9 {w wi : World} {row : Option Nat} {a : Addr} {v : Value} (h : w.grownBy wi row) (ha : w.heap.size ≤ a.block) : w.grownBy (wi.setCell a v) row :=
  ⟨h.os, h.tape, h.output, by rw [World.size_setCell]; exact h.size, fun k hk hr => (Below.heap_setCell _ _ _ _ (by omega)).trans (h.block k hk hr)⟩
theorem ES.store (h : ES W ws A n c M i l w B bv bn wi) (x y : Int) : ES W ws A n c M i l w B x y ((wi.setCell ⟨B, 0, none⟩ (.int .i64 x)).setCell ⟨B, 1, none⟩ (.int .i64 y)) := by
  obtain ⟨h1, h2, h3, h4, ⟨l', m1, m2, m3⟩, h6, h7, h8, h9⟩ := h
  have hoth : ∀ k, k ≠ B → ((wi.setCell ⟨B, 0, none⟩ (.int .i64 x)).setCell ⟨B, 1, none⟩ (.int .i64 y)).heap[k]? = wi.heap[k]? := fun k hk => (Below.heap_setCell _ _ _ _ hk).trans (Below.heap_setCell _ _ _ _ hk)
  refine ⟨(hoth _ (by omega)).trans h1, (hoth _ (by omega)).trans h2, ?_, ?_, ⟨l', m1.block (hoth _ (by omega)), m2, m3⟩, grown_set9 (grown_set9 h6 (by simp only; omega)) (by simp only; omega), h7, h8, h9⟩
  · have s1 := heap_setCell_same wi B 0 _ _ (.int .i64 x) h3
    have s2 := heap_setCell_same _ B 1 _ _ (.int .i64 y) s1
    rw [s2]
    rfl
  · exact SRow.kept (B := some ⟨B, 0, none⟩) h4 (grown_trans grown_set grown_set) (fun p q hp hq => by cases hq; have := (h9 p hp).1; simp only; omega)
/-- The last steps: what was found is kept and returned. -/
theorem ES.done (h : ES W ws A n c M i l w B bv bn wi) {w5 : World} {l' : List (Nat × Value)} (hE : endV W ws i = .agg #[.int .i64 bv, .int .i64 bn]) (m2 : MInv W ws l') (m3 : ∀ j, j ≤ i → valOf j l' = valOf j l) (m5 : MapIs encN w5 M (l' ++ [(i, .agg #[.int .i64 bv, .int .i64 bn])])) (hg : wi.grownBy w5 (some M)) :
    w5.cell? ⟨B, 0, none⟩ = some (.int .i64 bv) ∧ w5.cell? ⟨B, 1, none⟩ = some (.int .i64 bn) ∧ w5.cell? ⟨w.heap.size + 1, 0, none⟩ = some (.int .i64 0) ∧ w5.cell? ⟨w.heap.size + 1, 1, none⟩ = some (.int .i64 0) ∧
    w5.frozen? ⟨w.heap.size + 1, 0, none⟩ = false ∧ w5.frozen? ⟨w.heap.size + 1, 1, none⟩ = false ∧ w.heap.size + 1 < w5.heap.size ∧ B < w5.heap.size ∧
    Hid (∀ w9, w9 = (w5.setCell ⟨w.heap.size + 1, 0, none⟩ (.int .i64 bv)).setCell ⟨w.heap.size + 1, 1, none⟩ (.int .i64 bn) → w9.cell? ⟨w.heap.size + 1, 0, none⟩ = some (.int .i64 bv) ∧ w9.cell? ⟨w.heap.size + 1, 1, none⟩ = some (.int .i64 bn) ∧ EnOut W ws i M l w (.returned (.agg #[.int .i64 bv, .int .i64 bn])) w9) := by
  obtain ⟨h1, h2, h3, h4, _, h6, h7, h8, h9⟩ := h
  have k1 := own_lt h1
  have hbb := (hg.block _ (own_lt h3) (by simp; omega)).trans h3
  have hrr := (hg.block _ (own_lt h2) (by simp; omega)).trans h2
  refine ⟨own_cell hbb rfl, own_cell hbb rfl, own_cell hrr rfl, own_cell hrr rfl, own_frozen hrr _, own_frozen hrr _, own_lt hrr, own_lt hbb, Lib.hid fun w9 e9 => ?_⟩
  have s1 := heap_setCell_same w5 _ 0 _ _ (.int .i64 bv) hrr
  have s2 := heap_setCell_same _ _ 1 _ _ (.int .i64 bn) s1
  rw [← e9] at s2
  refine ⟨own_cell s2 rfl, own_cell s2 rfl, by rw [hE], l' ++ [(i, .agg #[.int .i64 bv, .int .i64 bn])], ?_, by rw [← hE]; exact m2.put, fun j hj => ?_, ?_⟩
  · subst e9
    exact m5.block ((Below.heap_setCell _ _ _ _ (by simp only; omega)).trans (Below.heap_setCell _ _ _ _ (by simp only; omega)))
  · rw [valOf_app9]
    have : valOf j [(i, Value.agg #[.int .i64 bv, .int .i64 bn])] = none := by simp only [valOf]; rw [if_neg (by omega)]
    rw [this, Option.or_none]
    exact m3 j (by omega)
  · subst e9
    exact grown_set9 (grown_set9 (grown_trans h6 hg) (by simp only; omega)) (by simp only; omega)
end
end Go.Proofs.Ytcaojaaooadeaaa
