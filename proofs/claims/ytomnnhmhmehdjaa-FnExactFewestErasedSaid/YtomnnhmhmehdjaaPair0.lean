/- Pairs of letters in a text, as plain data. No program is named. -/
import Derived.Test.YtomnnhmhmehdjaaArr0
import Derived.Lib.IndexLaws
namespace Go.Proofs.Ytomnnhmhmehdjaa
set_option linter.unusedVariables false

theorem idx_first {L : List UInt8} {c : UInt8} {k : Nat} (hk : L[k]? = some c) (h : ∀ j, j < k → L[j]? ≠ some c) : Lib.indexByte L c = k := by
  by_cases h0 : Lib.indexByte L c = -1
  · exact absurd hk (Lib.indexByte_none h0 k)
  · have hge := Lib.indexByte_ge L c
    obtain ⟨o, ho⟩ : ∃ o : Nat, Lib.indexByte L c = o := ⟨(Lib.indexByte L c).toNat, by omega⟩
    obtain ⟨h1, h2⟩ := Lib.indexByte_some ho
    rw [ho]
    rcases Nat.lt_trichotomy o k with h3 | h3 | h3
    · exact absurd h1 (h o h3)
    · rw [h3]
    · exact absurd hk (h2 k h3)
theorem idx_none {L : List UInt8} {c : UInt8} (h : ∀ j : Nat, L[j]? ≠ some c) : Lib.indexByte L c = -1 := by
  by_cases h0 : Lib.indexByte L c = -1
  · exact h0
  · have hge := Lib.indexByte_ge L c
    obtain ⟨o, ho⟩ : ∃ o : Nat, Lib.indexByte L c = o := ⟨(Lib.indexByte L c).toNat, by omega⟩
    exact absurd (Lib.indexByte_some ho).1 (h o)
theorem idx_lt {L : List UInt8} {c : UInt8} {o : Nat} (h : Lib.indexByte L c = o) : o < L.length := (List.getElem?_eq_some_iff.1 (Lib.indexByte_some h).1).1

/-- Byte number i stands before it already. -/
def dupAt (L : List UInt8) (i : Nat) : Bool := (L.take i).contains (L.getD i 0)
theorem dupAt_yes {L : List UInt8} {i k : Nat} {c : UInt8} (hi : L[i]? = some c) (hk : L[k]? = some c) (h : k < i) : dupAt L i = true := by
  unfold dupAt
  rw [getD_of' hi, List.contains_iff_mem]
  exact List.mem_of_getElem? (i := k) (by rw [List.getElem?_take, if_pos h]; exact hk)
theorem dupAt_no {L : List UInt8} {i : Nat} {c : UInt8} (hi : L[i]? = some c) (h : ∀ k, k < i → L[k]? ≠ some c) : dupAt L i = false := by
  unfold dupAt
  rw [getD_of' hi, Bool.eq_false_iff]
  intro hc
  obtain ⟨k, hk⟩ := List.getElem?_of_mem (List.contains_iff_mem.1 hc)
  rw [List.getElem?_take] at hk
  split at hk
  · rename_i hlt
    exact h k hlt hk
  · cases hk
theorem dupAt_idx {L : List UInt8} {i : Nat} {c : UInt8} (hi : L[i]? = some c) : dupAt L i = false ↔ Lib.indexByte L c = i := by
  constructor
  · intro h
    refine idx_first hi fun j hj hc => ?_
    rw [dupAt_yes hi hc hj] at h
    cases h
  · intro h
    exact dupAt_no hi fun k hk => (Lib.indexByte_some h).2 k hk
def distB (L : List UInt8) : Bool := (List.range L.length).all fun i => !dupAt L i
theorem distB_no {L : List UInt8} {i : Nat} (hi : i < L.length) (h : dupAt L i = true) : distB L = false := by
  unfold distB
  rw [List.all_eq_false]
  exact ⟨i, List.mem_range.2 hi, by simp [h]⟩
theorem distB_yes {L : List UInt8} (h : ∀ i, i < L.length → dupAt L i = false) : distB L = true := by
  unfold distB
  rw [List.all_eq_true]
  intro i hi
  simp [h i (List.mem_range.1 hi)]

/-- One pair more. -/
def bump (T : List (List Int)) (a c : Nat) : List (List Int) := T.set a ((T.getD a []).set c (min 1000 ((T.getD a []).getD c 0 + 1)))
def pstep (L : List UInt8) (T : List (List Int)) (x y : UInt8) : List (List Int) :=
  if 0 ≤ Lib.indexByte L x ∧ 0 ≤ Lib.indexByte L y then bump T (Lib.indexByte L x).toNat (Lib.indexByte L y).toNat else T
/-- The pairs that end at the first m + 1 bytes. -/
def pairsTo (L t : List UInt8) : Nat → List (List Int)
  | 0 => List.replicate L.length (List.replicate L.length 0)
  | m + 1 => pstep L (pairsTo L t m) (t.getD m 0) (t.getD (m + 1) 0)
def tabOk (n : Nat) (T : List (List Int)) : Prop := T.length = n ∧ ∀ (i : Nat) (xs : List Int), T[i]? = some xs → xs.length = n ∧ ∀ (k : Nat) (x : Int), xs[k]? = some x → 0 ≤ x ∧ x ≤ 1000
theorem tabOk.zero (n : Nat) : tabOk n (List.replicate n (List.replicate n 0)) := by
  refine ⟨by simp, fun i xs hx => ?_⟩
  obtain ⟨h1, rfl⟩ := List.getElem?_eq_some_iff.1 hx
  rw [List.getElem_replicate]
  refine ⟨by simp, fun k x hk => ?_⟩
  obtain ⟨h2, rfl⟩ := List.getElem?_eq_some_iff.1 hk
  rw [List.getElem_replicate]
  omega
theorem tabOk.bump {n : Nat} {T : List (List Int)} (h : tabOk n T) {a c : Nat} (ha : a < n) (hc : c < n) : tabOk n (bump T a c) := by
  obtain ⟨h1, h2⟩ := h
  have hTa : T[a]? = some T[a] := List.getElem?_eq_getElem (by omega)
  obtain ⟨r1, r2⟩ := h2 a _ hTa
  refine ⟨by simp [Go.Proofs.Ytomnnhmhmehdjaa.bump, h1], fun i xs hx => ?_⟩
  rw [Go.Proofs.Ytomnnhmhmehdjaa.bump, getD_of' hTa] at hx
  by_cases hia : a = i
  · subst hia
    rw [List.getElem?_set_self (by omega)] at hx
    cases hx
    refine ⟨by simp [r1], fun k x hk => ?_⟩
    by_cases hkc : c = k
    · subst hkc
      rw [List.getElem?_set_self (by omega)] at hk
      cases hk
      have hTc : T[a][c]? = some T[a][c] := List.getElem?_eq_getElem (by omega)
      have := r2 c _ hTc
      rw [getD_of' hTc]
      omega
    · rw [List.getElem?_set_ne hkc] at hk
      exact r2 k x hk
  · rw [List.getElem?_set_ne hia] at hx
    exact h2 i xs hx
theorem tabOk.pstep {L : List UInt8} {T : List (List Int)} (h : tabOk L.length T) (x y : UInt8) : tabOk L.length (pstep L T x y) := by
  unfold Go.Proofs.Ytomnnhmhmehdjaa.pstep
  split
  · rename_i hh
    exact h.bump (idx_lt (c := x) (by omega)) (idx_lt (c := y) (by omega))
  · exact h
theorem pairsTo_ok (L t : List UInt8) : ∀ m, tabOk L.length (pairsTo L t m)
  | 0 => tabOk.zero _
  | m + 1 => (pairsTo_ok L t m).pstep _ _
def alphaB (s : ByteArray) (inB : Bool) : Bool := decide (2 ≤ s.size) && (decide ((s.size : Int) ≤ 7) && inB && distB s.data.toList)
def pairsOf (s t : ByteArray) (inB : Bool) : List (List Int) × Int := if (alphaB s inB && decide (t.size ≤ 4000)) = true then (pairsTo s.data.toList t.data.toList (t.size - 1), 0) else ([], 2)
end Go.Proofs.Ytomnnhmhmehdjaa
