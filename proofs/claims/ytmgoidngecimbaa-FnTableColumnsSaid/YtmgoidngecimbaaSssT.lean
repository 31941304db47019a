/- The law's copy of a slice of slices, and its marks. -/
import Derived.Test.YtmgoidngecimbaaSssD
namespace Go.Proofs.Ytmgoidngecimbaa
open Go.RowKit Go.ChangeShapes Go.WideShapes Go.Deep
set_option linter.unusedVariables false
set_option linter.unusedSimpArgs false

/-- The copy is under way: k rows of it lie there. -/
def ToInvS (w : World) (n : Nat) (xss : List (List ByteArray)) (k : Nat) (wr : World) : Prop :=
  ∃ (rs : List RowD) (f : Nat → Value), rs.length = k ∧ Below w.heap.size w wr ∧ wr.rowIs w.heap.size 27 n f ∧ (∀ (i : Nat) (r : RowD), rs[i]? = some r → f i = .slice r.A r.n r.c) ∧
    (∀ (i : Nat) (r : RowD) (xs : List ByteArray), rs[i]? = some r → xss[i]? = some xs → OStrs wr w.heap.size r.A r.n xs ∧ r.n ≤ 1048576) ∧
    (∀ (i : Nat) (r : RowD) (p : Addr), rs[i]? = some r → r.A = some p → w.heap.size < p.block ∧ p.block < wr.heap.size) ∧
    (∀ (i j : Nat) (r s : RowD) (p q : Addr), i ≠ j → rs[i]? = some r → rs[j]? = some s → r.A = some p → s.A = some q → p.block ≠ q.block)
theorem ToInvS.step {w wr w1 : World} {n k m g : Nat} {xss : List (List ByteArray)} {xs : List ByteArray} (h : ToInvS w n xss k wr) (hk : k < n) (hx : xss[k]? = some xs) (hb : Below wr.heap.size wr w1) (hO : OStrs w1 wr.heap.size (some ⟨g, 0, none⟩) m xs) (hm : m ≤ 1048576) :
    ToInvS w n xss (k + 1) (w1.setCell ⟨w.heap.size, k, none⟩ (.slice (some ⟨g, 0, none⟩) m m)) := by
  obtain ⟨rs, f, h1, h2, h3, h4, h5, h6, h7⟩ := h
  have hG := h3.lt
  have hg1 := hO.own _ rfl
  have hg2 := hO.lt _ rfl
  simp only at hg1 hg2
  have hlook : ∀ (i : Nat) (r : RowD), (rs ++ [⟨some ⟨g, 0, none⟩, m, m⟩])[i]? = some r → (i < k ∧ rs[i]? = some r) ∨ (i = k ∧ r = ⟨some ⟨g, 0, none⟩, m, m⟩) := fun i r hr => by
    rcases Nat.lt_or_ge i k with hi | hi
    · rw [List.getElem?_append_left (by omega)] at hr
      exact .inl ⟨hi, hr⟩
    · rw [List.getElem?_append_right (by omega)] at hr
      rcases Nat.lt_or_ge (i - rs.length) 1 with h0 | h0
      · obtain rfl : i = k := by omega
        simp [h1] at hr
        exact .inr ⟨rfl, hr.symm⟩
      · rw [List.getElem?_eq_none (by simpa using h0)] at hr
        cases hr
  have hother : ∀ b, b ≠ w.heap.size → (w1.setCell ⟨w.heap.size, k, none⟩ (.slice (some ⟨g, 0, none⟩) m m)).heap[b]? = w1.heap[b]? := fun b hb' => Below.heap_setCell _ _ _ _ (fun e => hb' e)
  have hsz : (w1.setCell ⟨w.heap.size, k, none⟩ (.slice (some ⟨g, 0, none⟩) m m)).heap.size = w1.heap.size := by simp [World.setCell]
  refine ⟨rs ++ [⟨some ⟨g, 0, none⟩, m, m⟩], _, by simp [h1], (h2.trans (hb.mono h2.size)).setCell (Nat.le_refl _) _, (h3.of_block (hb.block _ hG)).set k _, fun i r hr => ?_, fun i r ys hr hy => ?_, fun i r p hr hp => ?_, fun i j r s p q hij hr hs hp hq => ?_⟩
  · rcases hlook i r hr with ⟨hi, h0⟩ | ⟨rfl, rfl⟩
    · rw [if_neg (by omega)]
      exact h4 i r h0
    · rw [if_pos rfl]
  · rcases hlook i r hr with ⟨hi, h0⟩ | ⟨rfl, rfl⟩
    · obtain ⟨a1, a2⟩ := h5 i r ys h0 hy
      refine ⟨(a1.below hb).block fun p hp => hother _ ?_, a2⟩
      have := h6 i r p h0 hp
      omega
    · rw [hx] at hy
      cases hy
      refine ⟨(hO.mono h2.size).block fun p hp => hother _ ?_, hm⟩
      cases hp
      simp only
      omega
  · rw [hsz]
    rcases hlook i r hr with ⟨hi, h0⟩ | ⟨rfl, rfl⟩
    · have := h6 i r p h0 hp
      have := hb.size
      omega
    · cases hp
      simp only
      omega
  · rcases hlook i r hr with ⟨hi, h0⟩ | ⟨rfl, rfl⟩
    · rcases hlook j s hs with ⟨hj, k0⟩ | ⟨rfl, rfl⟩
      · exact h7 i j r s p q hij h0 k0 hp hq
      · cases hq
        have := h6 i r p h0 hp
        simp only
        omega
    · rcases hlook j s hs with ⟨hj, k0⟩ | ⟨rfl, rfl⟩
      · cases hp
        have := h6 j s q k0 hq
        simp only
        omega
      · exact absurd rfl hij
theorem ToInvS.done {w wr : World} {n : Nat} {xss : List (List ByteArray)} (h : ToInvS w n xss n wr) (hn : xss.length = n) : OStrSS wr w.heap.size wr.heap.size (some ⟨w.heap.size, 0, none⟩) n xss := by
  obtain ⟨rs, f, h1, h2, h3, h4, h5, h6, h7⟩ := h
  have hG := h3.lt
  refine ⟨rs, ⟨h1, .inr ⟨_, n, f, rfl, Nat.le_refl _, h3, by omega, fun i x hx j u hu => ?_⟩⟩, hn, fun q hq => by cases hq; exact hG, h5, fun i r p hr hp => ⟨(h6 i r p hr hp).2, fun q hq => ?_⟩, h7⟩
  · have hi : i < n := by rw [← h1]; exact (List.getElem?_eq_some_iff.1 hx).1
    match j, hu with
    | 0, hu =>
      simp [RowD.cells] at hu
      subst hu
      exact ⟨by omega, by simpa using h4 i x hx⟩
    | j + 1, hu => simp [RowD.cells] at hu
  · cases hq
    have := h6 i r p hr hp
    simp only
    omega

/-- The rows' marks, from k on. -/
def marksSt (k : Int) : List (List ByteArray) → List (List ByteArray)
  | [] => []
  | xs :: r => marksOf 1 markStr k xs.length :: marksSt (k + xs.length) r
theorem marksSt_length : ∀ (k : Int) (xss : List (List ByteArray)), (marksSt k xss).length = xss.length
  | _, [] => rfl
  | k, xs :: r => by rw [marksSt, List.length_cons, List.length_cons, marksSt_length]
theorem marksSt_at : ∀ (xss : List (List ByteArray)) (k : Int) (i : Nat) (xs : List ByteArray), xss[i]? = some xs → (marksSt k xss)[i]? = some (marksOf 1 markStr (k + (totS (xss.take i) : Int)) xs.length)
  | [], k, i, xs, h => by simp at h
  | y :: r, k, 0, xs, h => by
    simp at h
    subst h
    simp [marksSt, totS]
  | y :: r, k, i + 1, xs, h => by
    rw [List.getElem?_cons_succ] at h
    rw [marksSt, List.getElem?_cons_succ, marksSt_at r _ i xs h]
    have : totS ((y :: r).take (i + 1)) = y.length + totS (r.take i) := by simp [totS]
    rw [this, Int.natCast_add, Int.add_assoc]
end Go.Proofs.Ytmgoidngecimbaa
