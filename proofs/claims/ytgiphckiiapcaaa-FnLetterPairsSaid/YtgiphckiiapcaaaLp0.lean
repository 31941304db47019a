/- Pairs of letters that are drawn: their number, as plain data. -/
import Derived.Test.YtgiphckiiapcaaaDraw7
namespace Go.Proofs.Ytgiphckiiapcaaa
open Go.RowKit
set_option linter.unusedVariables false

theorem lay5_alpha {L : ByteArray} (h : L ∈ lay5) : alphaB (L.extract 0 4) (bytesIn 32 126 (L.extract 0 4)) = true ∧ (L.extract 0 4).size = 4 := by
  simp only [lay5, List.mem_cons, List.not_mem_nil, or_false] at h
  rcases h with rfl | rfl | rfl | rfl
  · exact ⟨by kernel_rfl, by kernel_rfl⟩
  · exact ⟨by kernel_rfl, by kernel_rfl⟩
  · exact ⟨by kernel_rfl, by kernel_rfl⟩
  · exact ⟨by kernel_rfl, by kernel_rfl⟩
def known4 (L : ByteArray) : Bool := L.data.toList.all fun c => decide (0 ≤ Lib.indexByte (L.extract 0 4).data.toList c) == (c != L.data.toList.getD 4 0)
theorem lay5_known {L : ByteArray} (h : L ∈ lay5) : known4 L = true := by
  simp only [lay5, List.mem_cons, List.not_mem_nil, or_false] at h
  rcases h with rfl | rfl | rfl | rfl
  · kernel_rfl
  · kernel_rfl
  · kernel_rfl
  · kernel_rfl
theorem known_iff {L : ByteArray} (h : L ∈ lay5) {c : UInt8} (hc : c ∈ L.data.toList) : 0 ≤ Lib.indexByte (L.extract 0 4).data.toList c ↔ c ≠ L[4]'(by rw [lay5_size h]; decide) := by
  have h1 := List.all_eq_true.1 (lay5_known h) c hc
  have h2 : L.data.toList.getD 4 0 = L[4]'(by rw [lay5_size h]; decide) := getD_of' (byte_of _)
  rw [h2, beq_iff_eq] at h1
  by_cases h3 : c = L[4]'(by rw [lay5_size h]; decide)
  · rw [h3] at h1 ⊢
    simp at h1
    simp
    omega
  · have : (c != L[4]'(by rw [lay5_size h]; decide)) = true := by simpa using h3
    rw [this, decide_eq_true_eq] at h1
    exact ⟨fun _ => h3, fun _ => h1⟩

theorem sum_set : ∀ (xs : List Int) (c : Nat) (x y : Int), xs[c]? = some x → (xs.set c y).sum = xs.sum - x + y
  | [], c, x, y, h => by simp at h
  | z :: r, 0, x, y, h => by
    simp at h
    subst h
    simp
    omega
  | z :: r, c + 1, x, y, h => by
    rw [List.getElem?_cons_succ] at h
    have ih := sum_set r c x y h
    simp only [List.set_cons_succ, List.sum_cons]
    omega
/-- All numbers of a table together. -/
def sumT (T : List (List Int)) : Int := (T.map List.sum).sum
theorem sumT_bump {T : List (List Int)} {a c : Nat} {xs : List Int} {x : Int} (ha : T[a]? = some xs) (hc : xs[c]? = some x) (hx : x < 1000) : sumT (bump T a c) = sumT T + 1 := by
  rw [bump, getD_of' ha, getD_of' hc, sumT, List.map_set, sum_set (T.map List.sum) a xs.sum _ (by simp [ha]), sum_set xs c x _ hc, sumT]
  omega
/-- No number of the table is over m. -/
def leT (m : Int) (T : List (List Int)) : Prop := ∀ (i k : Nat) (xs : List Int) (x : Int), T[i]? = some xs → xs[k]? = some x → x ≤ m
theorem leT.bump {m : Int} {n : Nat} {T : List (List Int)} (h : leT m T) (ht : tabOk n T) {a c : Nat} (ha : a < n) (hc : c < n) : leT (m + 1) (bump T a c) := fun i k xs x hx hk => by
  have haT : a < T.length := by rw [ht.1]; exact ha
  have hTa : T[a]? = some T[a] := List.getElem?_eq_getElem haT
  rw [Go.Proofs.Ytgiphckiiapcaaa.bump, getD_of' hTa] at hx
  by_cases hia : a = i
  · subst hia
    rw [List.getElem?_set_self (by rw [ht.1]; exact ha)] at hx
    cases hx
    by_cases hkc : c = k
    · subst hkc
      have hl := (ht.2 a _ hTa).1
      rw [List.getElem?_set_self (by omega)] at hk
      cases hk
      have hTc : T[a][c]? = some T[a][c] := List.getElem?_eq_getElem (by omega)
      have := h a c _ _ hTa hTc
      rw [getD_of' hTc]
      omega
    · rw [List.getElem?_set_ne hkc] at hk
      have := h a k _ _ hTa hk
      omega
  · rw [List.getElem?_set_ne hia] at hx
    have := h i k _ _ hx hk
    omega
/-- How many pairs end at the first m + 1 bytes. -/
def cntTo (L t : List UInt8) : Nat → Int
  | 0 => 0
  | m + 1 => cntTo L t m + if 0 ≤ Lib.indexByte L (t.getD m 0) ∧ 0 ≤ Lib.indexByte L (t.getD (m + 1) 0) then 1 else 0
theorem cntTo_range (L t : List UInt8) : ∀ m : Nat, 0 ≤ cntTo L t m ∧ cntTo L t m ≤ m
  | 0 => by simp [cntTo]
  | m + 1 => by
    have := cntTo_range L t m
    unfold cntTo
    split <;> omega
theorem pairsTo_sum (L t : List UInt8) : ∀ m : Nat, m ≤ 999 → sumT (pairsTo L t m) = cntTo L t m ∧ leT (m : Int) (pairsTo L t m)
  | 0, _ => by
    refine ⟨?_, fun i k xs x hx hk => ?_⟩
    · have h1 : ∀ n : Nat, (List.replicate n (0 : Int)).sum = 0 := fun n => by induction n with | zero => rfl | succ n ih => simp [List.replicate_succ, ih]
      have h2 : ∀ n : Nat, ((List.replicate n (List.replicate L.length (0 : Int))).map List.sum).sum = 0 := fun n => by induction n with | zero => rfl | succ n ih => simp only [List.replicate_succ, List.map_cons, List.sum_cons, ih, h1]; rfl
      exact h2 _
    · have hx' : (List.replicate L.length (List.replicate L.length (0 : Int)))[i]? = some xs := hx
      obtain ⟨_, rfl⟩ := List.getElem?_eq_some_iff.1 hx'
      rw [List.getElem_replicate] at hk
      obtain ⟨_, rfl⟩ := List.getElem?_eq_some_iff.1 hk
      rw [List.getElem_replicate]
      omega
  | m + 1, hm => by
    obtain ⟨h1, h2⟩ := pairsTo_sum L t m (by omega)
    have hok := pairsTo_ok L t m
    rw [pairsTo, cntTo, pstep]
    split
    · rename_i hh
      have ha := idx_lt (L := L) (c := t.getD m 0) (o := (Lib.indexByte L (t.getD m 0)).toNat) (by omega)
      have hc := idx_lt (L := L) (c := t.getD (m + 1) 0) (o := (Lib.indexByte L (t.getD (m + 1) 0)).toNat) (by omega)
      have hTa := List.getElem?_eq_getElem (l := pairsTo L t m) (i := (Lib.indexByte L (t.getD m 0)).toNat) (by rw [hok.1]; exact ha)
      have hl := (hok.2 _ _ hTa).1
      have hTc := List.getElem?_eq_getElem (l := (pairsTo L t m)[(Lib.indexByte L (t.getD m 0)).toNat]'(by rw [hok.1]; exact ha)) (i := (Lib.indexByte L (t.getD (m + 1) 0)).toNat) (by omega)
      have h3 := h2 _ _ _ _ hTa hTc
      refine ⟨by rw [sumT_bump hTa hTc (by omega), h1], ?_⟩
      have := h2.bump hok ha hc
      rwa [show ((m + 1 : Nat) : Int) = (m : Int) + 1 by omega]
    · refine ⟨by rw [h1]; omega, fun i k xs x hx hk => ?_⟩
      have := h2 i k xs x hx hk
      omega
theorem sum_take {T : List (List Int)} {k : Nat} {xs : List Int} (hx : T[k]? = some xs) : sumT (T.take (k + 1)) = sumT (T.take k) + xs.sum := by
  obtain ⟨h1, rfl⟩ := List.getElem?_eq_some_iff.1 hx
  rw [List.take_succ_eq_append_getElem h1, sumT, List.map_append, List.sum_append, sumT]
  simp
theorem sum_take1 {xs : List Int} {k : Nat} {x : Int} (hx : xs[k]? = some x) : (xs.take (k + 1)).sum = (xs.take k).sum + x := by
  obtain ⟨h1, rfl⟩ := List.getElem?_eq_some_iff.1 hx
  rw [List.take_succ_eq_append_getElem h1, List.sum_append]
  simp
theorem sum_le {xs : List Int} (h : ∀ (k : Nat) (x : Int), xs[k]? = some x → 0 ≤ x ∧ x ≤ 1000) : ∀ k : Nat, 0 ≤ (xs.take k).sum ∧ (xs.take k).sum ≤ k * 1000
  | 0 => by simp
  | k + 1 => by
    have ih := sum_le h k
    cases hx : xs[k]? with
    | none =>
      have h2 : xs.length ≤ k := List.getElem?_eq_none_iff.1 hx
      rw [List.take_of_length_le (by omega)] at ih ⊢
      omega
    | some x =>
      have := h k x hx
      rw [sum_take1 hx]
      omega
end Go.Proofs.Ytgiphckiiapcaaa
