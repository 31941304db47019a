/- The plan of a row: the program's, which ranges over an iterator. -/
import Derived.Test.YtijelimpkcnbjaaRf0
import Derived.Test.YtijelimpkcnbjaaBf4
import Derived.Test.YtijelimpkcnbjaaTm5
import Derived.Test.YtijelimpkcnbjaaTs1
import Derived.Test.YtijelimpkcnbjaaBuild
namespace Go.Proofs.Ytijelimpkcnbjaa
open Go.RowKit Go.ChangeShapes Go.WideShapes Go.Deep Go.Shelf
set_option linter.unusedVariables false
set_option linter.unusedSimpArgs false
attribute [local go_sem] Oper.semAt_some

/-- What the letters of a row put into its plan. -/
noncomputable def plX (ps : List Int) (xs : List Ltr) : List UInt8 := xs.flatMap fun x => wayP ps x.col x.fr ++ [39, x.c]
theorem row_asc {s : ByteArray} (h : rowB s = true) : ∀ k, (hk : k < s.size) → 32 ≤ (s[k]'hk).toNat ∧ (s[k]'hk).toNat ≤ 126 := by
  simp only [rowB, Bool.and_eq_true] at h
  intro k hk
  exact Classical.byContradiction fun hn => by
    have := h.1.2
    rw [bytesIn_no hk hn] at this
    cases this
theorem plS_at2 (ps : List Int) (s : ByteArray) : ∀ k, (plS ps s k).2.1 = (ltF s k).2
  | 0 => rfl
  | k + 1 => by
    rw [plS, ltF]
    split
    · exact plS_at2 ps s k
    · rfl
theorem plX_raw (ps : List Int) : ∀ xs ys : List Ltr, xs.map Ltr.raw = ys.map Ltr.raw → plX ps xs = plX ps ys
  | [], [], _ => rfl
  | [], y :: ys, h => by simp at h
  | x :: xs, [], h => by simp at h
  | x :: xs, y :: ys, h => by
    simp only [List.map_cons, List.cons.injEq] at h
    have e := h.1
    simp only [Ltr.raw, Prod.mk.injEq] at e
    rw [plX, plX, List.flatMap_cons, List.flatMap_cons, e.1, e.2.1, e.2.2]
    exact congrArg _ (plX_raw ps xs ys h.2)
theorem plS_plX (ps : List Int) (s : ByteArray) : ∀ k (xs : List Ltr), xs.map Ltr.raw = (ltF s k).1 → (plS ps s k).1 = plX ps xs
  | 0, xs, h => by
    have : xs = [] := by simpa [ltF] using h
    subst this
    rfl
  | k + 1, xs, h => by
    rw [ltF] at h
    rw [plS]
    split at h
    · rename_i h32
      rw [if_pos h32]
      exact plS_plX ps s k xs h
    · rename_i h32
      rw [if_neg h32]
      rcases List.eq_nil_or_concat xs with rfl | ⟨ys, y, rfl⟩
      · simp at h
      · rw [List.concat_eq_append, List.map_append] at h
        obtain ⟨h1, h2⟩ := List.append_inj' h rfl
        have h3 := plS_plX ps s k ys h1
        simp only [List.map_cons, List.map_nil, List.cons.injEq, Ltr.raw, Prod.mk.injEq, and_true] at h2
        rw [h3, plS_at2, List.concat_eq_append, plX, plX, List.flatMap_append, List.flatMap_singleton, h2.1, h2.2.1, h2.2.2, List.append_assoc]
theorem built_kept {T e : TypeId} {B b : Nat} {bs : List Value} {w w' : World} (h : Lib.IsBuilderF T e B b bs w) (hk : ∀ (k : Nat) (o : Obj), w.heap[k]? = some o → o.isCells = true → w'.heap[k]? = some o) : Lib.IsBuilderF T e B b bs w' := by
  have h1 : ∀ p, Lib.BuilderAtF T e B b p bs w → Lib.BuilderAtF T e B b p bs w' := fun p hp => by
    obtain ⟨hB, v, hb, hown, hne⟩ := hp
    refine ⟨hB, v, hk _ _ hb rfl, ?_, hne⟩
    obtain ⟨hl, h0 | ⟨g, cap, cur, fz, rest⟩⟩ := hown
    · exact ⟨hl, .inl h0⟩
    · refine ⟨hl, .inr ⟨g, cap, cur, fz, ?_⟩⟩
      obtain ⟨r1, r2, r3, r4⟩ := rest
      exact ⟨r1, r2, hk _ _ r3 rfl, r4⟩
  exact h.elim (fun x => .inl (h1 _ x)) (fun x => .inr (h1 _ x))
theorem others_keeps {e : TypeId} {b : Nat} {w w' : World} (h : Lib.OthersKept e (some b) w w') (hb : ∃ o, w.heap[b]? = some o ∧ o.isCells = true) (hs : w.heap.size ≤ w'.heap.size) : KeepsOthers w w' :=
  ⟨hs, fun k o hk ho => by
    refine h k o hk (fun e2 => ?_) (fun c fz e2 => ?_)
    · cases e2
      obtain ⟨o', h1, h2⟩ := hb
      rw [h1] at hk
      cases hk
      rw [h2] at ho
      cases ho
    · subst e2
      cases ho⟩
theorem below_keeps {w w' : World} (h : Below w.heap.size w w') : KeepsOthers w w' :=
  ⟨h.size, fun k o hk _ => (h.block k (Array.getElem?_eq_some_iff.1 hk).1).trans hk⟩
theorem wayP_le30 (ps : List Int) {t a : Nat} (ht : t ≤ 30) (ha : a ≤ 30) : (wayP ps t a).length ≤ 30 := by
  obtain ⟨F, hF⟩ := isFar_ex ps ht
  have hf := hF.far ht
  have h30 := far_30 ht hf.zero hf.step ha
  have hl := way_len hf 31 a ha (by omega)
  rw [wayP]
  omega
theorem plX_len (ps : List Int) : ∀ xs : List Ltr, (plX ps xs).length ≤ 32 * xs.length
  | [] => by simp [plX]
  | x :: xs => by
    have h1 := plX_len ps xs
    have h2 := wayP_le30 ps (t := x.col) (a := x.fr) (by have := x.h2; omega) (by have := x.h1; have := x.h2; omega)
    rw [plX, List.flatMap_cons, List.length_append, List.length_append, List.length_cons]
    rw [plX] at h1
    simp only [List.length_cons, List.length_nil]
    omega
theorem plX_snoc (ps : List Int) (xs : List Ltr) (x : Ltr) : plX ps (xs ++ [x]) = plX ps xs ++ wayP ps x.col x.fr ++ [39] ++ [x.c] := by simp [plX]
theorem built_cells {T e : TypeId} {B b : Nat} {bs : List Value} {w : World} (h : Lib.IsBuilderF T e B b bs w) : ∃ o, w.heap[b]? = some o ∧ o.isCells = true := by
  rcases h with ⟨_, v, hb, _⟩ | ⟨_, v, hb, _⟩
  · exact ⟨_, hb, rfl⟩
  · exact ⟨_, hb, rfl⟩
end Go.Proofs.Ytijelimpkcnbjaa
