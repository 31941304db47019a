/- Tables of pairs in memory: made of zeros, row by row, and one number of them raised. -/
import Derived.Test.YtgiphckiiapcaaaPair1
import Derived.Test.YtgiphckiiapcaaaIssO
import Derived.Test.YtgiphckiiapcaaaSwp0
import Derived.Deep.AppendLies
namespace Go.Proofs.Ytgiphckiiapcaaa
open Go.RowKit
set_option linter.unusedVariables false
set_option linter.unusedSimpArgs false

theorem made_zero (w : World) (n : Nat) : OInts (w.alloc (.cells (madeCells #[.int .i64 0] n) 2)) w.heap.size (some ⟨w.heap.size, 0, none⟩) n (List.replicate n 0) := by
  refine ⟨by simp, .inr ⟨w.heap.size, n, _, rfl, Nat.le_refl _, made_row _ _ _ _, by omega, fun i x hx j u hu => ?_⟩⟩
  have hi : i < n := by have := (List.getElem?_eq_some_iff.1 hx).1; simpa using this
  match j, hu with
  | 0, hu =>
    have hx0 : x = 0 := by
      obtain ⟨h1, rfl⟩ := List.getElem?_eq_some_iff.1 hx
      exact List.getElem_replicate ..
    simp [intC] at hu
    subst hu hx0
    refine ⟨by omega, ?_⟩
    have h2 : (madeCells #[Value.int IntKind.i64 0] n).toList[i]? = some (.int .i64 0) := by rw [toList_madeCells_one]; simp [hi]
    rw [Array.getElem?_toList] at h2
    simp [h2]
  | j + 1, hu => simp [intC] at hu

/-- The rows that are made so far, and the slice of them. -/
def OutInv (base n k : Nat) (v : Value) (rs : List RowD) (wr : World) : Prop :=
  rs.length = k ∧ wr.ownsRow base 24 1 v k (rs.flatMap RowD.cells) ∧
    (∀ (i : Nat) (r : RowD), rs[i]? = some r → OInts wr base r.A r.n (List.replicate n 0) ∧ r.n = n) ∧
    (∀ (i : Nat) (r : RowD) (p : Addr), rs[i]? = some r → r.A = some p → v.ownBlock ≠ some p.block) ∧
    (∀ (i j : Nat) (r s : RowD) (p q : Addr), i ≠ j → rs[i]? = some r → rs[j]? = some s → r.A = some p → s.A = some q → p.block ≠ q.block)
theorem OutInv.lt {base n k : Nat} {v : Value} {rs : List RowD} {wr : World} (h : OutInv base n k v rs wr) : ∀ g, v.ownBlock = some g → base ≤ g ∧ g < wr.heap.size := fun g hg => by
  obtain ⟨_, h2, _⟩ := h
  rcases h2.2 with ⟨rfl, _⟩ | ⟨g', cap, cur, rfl, hb, hh, _⟩
  · cases hg
  · cases hg
    exact ⟨hb, (Array.getElem?_eq_some_iff.1 hh).1⟩
theorem OutInv.step {base n k g cap : Nat} {v : Value} {rs : List RowD} {wr w5 : World} (h : OutInv base n k v rs wr) (hbase : base ≤ wr.heap.size) {w1 : World}
    (hw1 : Below wr.heap.size wr w1) (hnew : OInts w1 wr.heap.size (some ⟨wr.heap.size, 0, none⟩) n (List.replicate n 0))
    (ho : w5.ownsRow base 24 1 (.slice (some ⟨g, 0, none⟩) (k + 1) cap) (k + 1) (rs.flatMap RowD.cells ++ [.slice (some ⟨wr.heap.size, 0, none⟩) n n]))
    (hg : w1.grownBy w5 v.ownBlock) (hor : v.ownBlock = some g ∨ g = w1.heap.size) :
    OutInv base n (k + 1) (.slice (some ⟨g, 0, none⟩) (k + 1) cap) (rs ++ [⟨some ⟨wr.heap.size, 0, none⟩, n, n⟩]) w5 := by
  have hlt := h.lt
  obtain ⟨h1, h2, h3, h4, h5⟩ := h
  have hnl := hnew.lt _ rfl
  simp only at hnl
  have hlook : ∀ (i : Nat) (r : RowD), (rs ++ [⟨some ⟨wr.heap.size, 0, none⟩, n, n⟩])[i]? = some r → (i < k ∧ rs[i]? = some r) ∨ (i = k ∧ r = ⟨some ⟨wr.heap.size, 0, none⟩, n, n⟩) := fun i r hr => by
    rcases Nat.lt_or_ge i k with hi | hi
    · rw [List.getElem?_append_left (by omega)] at hr
      exact .inl ⟨hi, hr⟩
    · rw [List.getElem?_append_right (by omega)] at hr
      rcases Nat.lt_or_ge (i - rs.length) 1 with h0 | h0
      · obtain rfl : i = k := by omega
        simp [h1] at hr
        exact .inr ⟨rfl, hr.symm⟩
      · rw [List.getElem?_eq_none (by simpa using h0)] at hr
        cases hr
  have hsz := hw1.size
  have hne : v.ownBlock ≠ some wr.heap.size := fun e => by have := (hlt _ e).2; omega
  refine ⟨by simp [h1], by rw [List.flatMap_append]; exact ho, fun i r hr => ?_, fun i r p hr hp => ?_, fun i j r s p q hij hr hs hp hq => ?_⟩
  · rcases hlook i r hr with ⟨hi, h0⟩ | ⟨rfl, rfl⟩
    · obtain ⟨a1, a2⟩ := h3 i r h0
      refine ⟨(a1.below hw1).block fun p hp => hg.block _ ?_ ?_, a2⟩
      · have := a1.lt p hp; omega
      · intro e; exact h4 i r p h0 hp e.symm
    · refine ⟨(hnew.mono hbase).block fun p hp => hg.block _ ?_ ?_, rfl⟩
      · cases hp; exact hnl
      · cases hp; intro e; exact hne e.symm
  · rcases hlook i r hr with ⟨hi, h0⟩ | ⟨rfl, rfl⟩
    · have hp2 := (h3 i r h0).1.lt p hp
      have hv := h4 i r p h0 hp
      intro e
      simp only [Value.ownBlock, Option.some.injEq] at e
      rcases hor with h9 | h9
      · rw [h9, e] at hv; exact hv rfl
      · omega
    · cases hp
      intro e
      simp only [Value.ownBlock, Option.some.injEq] at e
      rcases hor with h9 | h9
      · rw [h9, e] at hne; exact hne rfl
      · omega
  · rcases hlook i r hr with ⟨hi, h0⟩ | ⟨rfl, rfl⟩
    · rcases hlook j s hs with ⟨hj, k0⟩ | ⟨rfl, rfl⟩
      · exact h5 i j r s p q hij h0 k0 hp hq
      · cases hq
        have := (h3 i r h0).1.lt p hp
        simp only
        omega
    · rcases hlook j s hs with ⟨hj, k0⟩ | ⟨rfl, rfl⟩
      · cases hp
        have := (h3 j s k0).1.lt q hq
        simp only
        omega
      · exact absurd rfl hij
theorem OutInv.done {base n : Nat} {v : Value} {rs : List RowD} {wr : World} (h : OutInv base n n v rs wr) (hn : n ≤ 1048576) : ∃ A c, v = .slice A n c ∧ OIntSS wr base wr.heap.size A n (List.replicate n (List.replicate n 0)) := by
  have hlt := h.lt
  obtain ⟨h1, h2, h3, h4, h5⟩ := h
  subst h1
  obtain ⟨A, c, rfl, hO⟩ := ORow.of_owns (fun (y : RowD) => (rfl : (RowD.cells y).length = 1)) h2
  refine ⟨A, c, rfl, rs, hO, by simp, fun q hq => hO.lt q hq, fun i r xs hr hx => ?_, fun i r p hr hp => ⟨(h3 i r hr).1.lt p hp, fun q hq e => ?_⟩, h5⟩
  · obtain ⟨a1, a2⟩ := h3 i r hr
    have : xs = List.replicate rs.length 0 := by
      obtain ⟨_, rfl⟩ := List.getElem?_eq_some_iff.1 hx
      exact List.getElem_replicate ..
    subst this
    exact ⟨a1, by omega⟩
  · refine h4 i r p hr hp ?_
    rcases hO with ⟨_, ⟨rfl, _⟩ | ⟨g, _, _, rfl, _⟩⟩
    · cases hq
    · cases hq
      simp only [Value.ownBlock, Option.some.injEq]
      exact e.symm

theorem bump_same {T : List (List Int)} {a c : Nat} {xs : List Int} {z : Int} (ha : T[a]? = some xs) (hc : xs[c]? = some z) (hz : z = 1000) : bump T a c = T := by
  rw [bump, getD_of' ha, getD_of' hc, hz]
  have h1 : xs.set c (min 1000 (1000 + 1)) = xs := by
    refine List.ext_getElem? fun i => ?_
    by_cases hi : c = i
    · subst hi
      rw [List.getElem?_set_self (List.getElem?_eq_some_iff.1 hc).1, hc, hz]
      rfl
    · rw [List.getElem?_set_ne hi]
  rw [h1]
  refine List.ext_getElem? fun i => ?_
  by_cases hi : a = i
  · subst hi
    rw [List.getElem?_set_self (List.getElem?_eq_some_iff.1 ha).1, ha]
  · rw [List.getElem?_set_ne hi]
/-- A number of the table raised in memory: where it lies, and what stands there behind the store. -/
theorem OIntSS.raise {w : World} {lo hi n a c : Nat} {A : Option Addr} {T : List (List Int)} (h : OIntSS w lo hi A n T) (ht : tabOk n T) (ha : a < n) (hc : c < n) :
    ∃ g hb cc z, A = some ⟨g, 0, none⟩ ∧ g ≠ hb ∧ lo ≤ hb ∧ g < w.heap.size ∧ hb < w.heap.size ∧ w.cell? ⟨g, a, none⟩ = some (.slice (some ⟨hb, 0, none⟩) n cc) ∧ w.cell? ⟨hb, c, none⟩ = some (.int .i64 z) ∧ w.frozen? ⟨hb, c, none⟩ = false ∧ 0 ≤ z ∧ z ≤ 1000 ∧
      OIntSS (w.setCell ⟨hb, c, none⟩ (.int .i64 (min 1000 (z + 1)))) lo hi A n (bump T a c) ∧ (z = 1000 → bump T a c = T) := by
  obtain ⟨g, B, m, cc, xs, rfl, hg, hx, c0, hI, hm, hB, hput⟩ := h.at_ ha
  obtain ⟨r1, r2⟩ := ht.2 a xs hx.out
  have hmn : n = m := by rw [← r1]; exact hI.1
  subst hmn
  have hI2 := hI
  rcases hI2 with ⟨_, ⟨_, h0⟩ | ⟨hb, M, f, rfl, hlo, hr, hM, _⟩⟩
  · omega
  · obtain ⟨_, _, z, hA, _, hz, d0⟩ := int_at hI.srow hc
    cases hA
    rw [Nat.zero_add] at d0
    obtain ⟨z0, z1⟩ := r2 c z hz.out
    have hne : g ≠ hb := fun e => by
      obtain ⟨rs, q1, q2, q3, q4, q5, q6⟩ := h
      obtain ⟨_, _, r, e1, _, hr', hc'⟩ := q1.srow.at_ ha
      cases e1
      have h9 := hc' 0 _ rfl
      rw [Nat.mul_one, Nat.add_zero, Nat.zero_add, c0] at h9
      have h8 : r.A = some ⟨hb, 0, none⟩ := by injection h9 with h9; injection h9 with h9 _; exact h9.symm
      exact (q5 a r _ hr' h8).2 _ rfl e.symm
    refine ⟨g, hb, cc, z, rfl, hne, hlo, hg, hr.lt, c0, d0, hr.frozen c, z0, z1, ?_, fun hz9 => bump_same hx.out hz.out hz9⟩
    rw [bump, getD_of' hx.out, getD_of' hz.out]
    exact hput _ _ grown_set (hI.put _ hc)
end Go.Proofs.Ytgiphckiiapcaaa
