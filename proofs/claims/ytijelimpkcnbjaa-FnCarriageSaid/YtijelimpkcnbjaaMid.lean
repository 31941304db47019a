/- Rows of the call's own of which the head has been sliced off: kept, sliced, appended to. No function is named. -/
import Derived.Test.YtijelimpkcnbjaaOwn0
import Derived.ArgAppend
namespace Go.Proofs.Ytijelimpkcnbjaa
open Go.RowKit Go.ChangeShapes Go.WideShapes Go.Deep
set_option linter.unusedVariables false
set_option linter.unusedSimpArgs false

/-- The slice v lies somewhere in a block of the call's own, reads as xs, and may be written up to its capacity. -/
def Mid (w : World) (base size : Nat) (v : Value) (n : Nat) (xs : List Value) : Prop :=
  xs.length = n * size ∧ ∃ g off cap, v = .slice (some ⟨g, off, none⟩) n cap ∧ base ≤ g ∧ g < w.heap.size ∧ n ≤ cap ∧ (∀ j u, xs[j]? = some u → w.cell? ⟨g, off + j, none⟩ = some u) ∧
    (∀ j, j < cap * size → (w.cell? ⟨g, off + j, none⟩).isSome = true ∧ w.frozen? ⟨g, off + j, none⟩ = false)
theorem Mid.form {w : World} {base size n : Nat} {v : Value} {xs : List Value} (h : Mid w base size v n xs) : ∃ g off cap, v = .slice (some ⟨g, off, none⟩) n cap ∧ base ≤ g ∧ g < w.heap.size ∧ n ≤ cap ∧ (∀ j u, xs[j]? = some u → w.cell? ⟨g, off + j, none⟩ = some u) := by
  obtain ⟨_, g, off, cap, h1, h2, h3, h4, h5, _⟩ := h
  exact ⟨g, off, cap, h1, h2, h3, h4, h5⟩
theorem Mid.block {w w' : World} {base size n : Nat} {v : Value} {xs : List Value} (h : Mid w base size v n xs) (hs : w.heap.size ≤ w'.heap.size) (hb : ∀ g, v.ownBlock = some g → w'.heap[g]? = w.heap[g]?) : Mid w' base size v n xs := by
  obtain ⟨hl, g, off, cap, rfl, h2, h3, h4, h5, h6⟩ := h
  have e := hb g rfl
  have hc : ∀ o, w'.cell? ⟨g, o, none⟩ = w.cell? ⟨g, o, none⟩ := fun o => World.cell?_of_block (a := ⟨g, o, none⟩) e
  have hf : ∀ o, w'.frozen? ⟨g, o, none⟩ = w.frozen? ⟨g, o, none⟩ := fun o => World.frozen?_of_block (a := ⟨g, o, none⟩) e
  exact ⟨hl, g, off, cap, rfl, h2, by omega, h4, fun j u hu => (hc _).trans (h5 j u hu), fun j hj => ⟨by rw [hc]; exact (h6 j hj).1, by rw [hf]; exact (h6 j hj).2⟩⟩
theorem Mid.below {w w' : World} {base size n : Nat} {v : Value} {xs : List Value} (h : Mid w base size v n xs) (hb : Below w.heap.size w w') : Mid w' base size v n xs :=
  h.block hb.size fun g hg => by
    obtain ⟨hl, g', off, cap, rfl, h2, h3, _⟩ := h
    cases hg
    exact hb.block _ h3
theorem Mid.lt {w : World} {base size n : Nat} {v : Value} {xs : List Value} (h : Mid w base size v n xs) : ∀ g, v.ownBlock = some g → base ≤ g ∧ g < w.heap.size := fun g hg => by
  obtain ⟨hl, g', off, cap, rfl, h2, h3, _⟩ := h
  cases hg
  exact ⟨h2, h3⟩
theorem Mid.kept {w w' : World} {base size n : Nat} {v : Value} {xs : List Value} {row : Option Nat} (h : Mid w base size v n xs) (hg : w.grownBy w' row) (hne : ∀ k, row = some k → v.ownBlock ≠ some k) : Mid w' base size v n xs :=
  h.block hg.size fun g hgg => hg.block g (h.lt g hgg).2 fun e => hne g e.symm hgg
theorem Mid.of_owns {w : World} {base base' size n : Nat} {E : TypeId} {v : Value} {xs : List Value} (h : w.ownsRow base E size v n xs) (hn : 0 < n) (hb : base' ≤ base) : Mid w base' size v n xs := by
  have hx := h
  obtain ⟨hl, ⟨_, h0⟩ | ⟨g, cap, cur, rfl, h2, h3, h4, _, h5, h6⟩⟩ := h
  · omega
  · refine ⟨hl, g, 0, cap, rfl, by omega, (Array.getElem?_eq_some_iff.1 h3).1, h4, fun j u hu => ?_, fun j hj => ?_⟩
    · have := hx.cells (g := g) rfl j u hu
      rw [Addr.add_lit] at this
      exact this
    · rw [Nat.zero_add]
      refine ⟨?_, own_frozen h3 j⟩
      have : j < cur.size := by rw [h5]; exact hj
      rw [own_cell h3 (o := j) (u := cur[j]) (by simp [this])]
      rfl
theorem Mid.new {w : World} {size n : Nat} {T : TypeId} {cs : List Value} (hl : cs.length = n * size) : Mid (w.alloc (.cells cs.toArray T)) w.heap.size size (.slice (some ⟨w.heap.size, 0, none⟩) n n) n cs := by
  have h3 : (w.alloc (.cells cs.toArray T)).heap[w.heap.size]? = some (.cells cs.toArray T) := heap_alloc_new _ _
  refine ⟨hl, w.heap.size, 0, n, rfl, Nat.le_refl _, by simp, Nat.le_refl _, fun j u hu => ?_, fun j hj => ?_⟩
  · rw [Nat.zero_add]
    exact own_cell h3 (by simpa using hu)
  · rw [Nat.zero_add]
    refine ⟨?_, own_frozen h3 j⟩
    rw [own_cell h3 (o := j) (u := cs[j]'(by omega)) (by simp)]
    rfl
/-- The first element is sliced off. -/
theorem Mid.tail {w : World} {base size n cap g off : Nat} {xs ys : List Value} (h : Mid w base size (.slice (some ⟨g, off, none⟩) (n + 1) cap) (n + 1) (xs ++ ys)) (hx : xs.length = size) (hc : cap ≠ 1) : Mid w base size (.slice (some ⟨g, off + size, none⟩) n (cap - 1)) n ys := by
  obtain ⟨hl, g', off', cap', h1, h2, h3, h4, h5, h6⟩ := h
  cases h1
  rw [List.length_append, Nat.add_mul] at hl
  refine ⟨by omega, g, off + size, cap - 1, rfl, h2, h3, by omega, fun j u hu => ?_, fun j hj => ?_⟩
  · have := h5 (size + j) u (by rw [List.getElem?_append_right (by omega), hx]; simpa using hu)
    rw [Nat.add_assoc]
    exact this
  · have e : cap * size = (cap - 1) * size + size := by
      have : cap = (cap - 1) + 1 := by omega
      rw [this, Nat.add_mul, Nat.one_mul]; rfl
    have := h6 (size + j) (by omega)
    rw [Nat.add_assoc]
    exact this
theorem Mid.tail1 {w : World} {base size g off : Nat} {xs : List Value} (h : Mid w base size (.slice (some ⟨g, off, none⟩) 1 1) 1 xs) : Mid w base size (.slice (some ⟨g, off, none⟩) 0 0) 0 [] := by
  obtain ⟨hl, g', off', cap', h1, h2, h3, h4, h5, h6⟩ := h
  cases h1
  exact ⟨by simp, g, off, 0, rfl, h2, h3, Nat.le_refl _, fun j u hu => by simp at hu, fun j hj => absurd hj (by omega)⟩
theorem grown_setCells (b : Nat) : ∀ (vs : List Value) (o : Nat) (w : World), w.grownBy (w.setCells b o vs) (some b)
  | [], o, w => grown_refl w _
  | v :: vs, o, w => grown_trans grown_set (grown_setCells b vs _ _)
/-- An append to such a row, in a region. -/
theorem wpList_append_mid {P : Program} (w : World) {ops : Array Oper} {rest : List Oper} {o : Oper} {a : Act} {Q : Exit → Act → World → Prop}
    (hg : o.guard = none) (s x : Operand) (t : TypeId) (hop : o.op = Op.call { callee := Callee.builtin Builtin.append, args := #[s, x], argTypes := #[t, t] })
    (base : Nat) (e : TypeId) (i : TypeInfo) (z : Value) (size bytes : Nat) (h1 : P.underlying t = some (.slice e)) (h2 : P.info? e = some i) (h3 : i.zero = some z) (h4 : i.size = size) (h5 : i.bytes = bytes) (h6 : z.cells.size = size) (h7 : 0 < size)
    (v : Value) (n : Nat) (xs : List Value) (hs : a.eval s = v) (hown : Mid w base size v n xs)
    (ad : Addr) (c : Nat) (news : List Value) (hx : a.eval x = .slice (some ad) 1 c) (hn : news.length = size) (hc : ∀ j u, news[j]? = some u → w.cell? (ad.add j) = some u) (h1c : ∀ u ∈ news, u.oneCell' = true)
    (b1 : n + 1 ≤ maxLen) (b2 : (n + 1) * bytes ≤ 140737488355328) (hbase : base ≤ w.heap.size)
    (hK : ∀ v' w', Mid w' base size v' (n + 1) (xs ++ news) → w.grownBy w' v.ownBlock → (∀ k, v'.ownBlock = some k → v.ownBlock = some k ∨ (w.heap.size ≤ k ∧ k < w'.heap.size)) → wpList P ops Q rest (a.put o.dst v') w') :
    wpList P ops Q (o :: rest) a w := by
  have hown' := hown
  obtain ⟨hl, g, off, cap, hv, g2, g3, g4, g5, g6⟩ := hown
  rw [hv] at hs
  refine wpList_append_arg w hg s x t hop e i z size bytes h1 h2 h3 h4 h5 h6 h7 g off n cap xs hs hl g5 ad 1 c news hx (by omega) hc h1c ?_ b1 b2 ?_ ?_
  · intro hr j hj
    have e1 : (n + 1) * size ≤ cap * size := Nat.mul_le_mul_right _ hr
    rw [Nat.add_mul, Nat.one_mul] at e1
    have := g6 (n * size + j) (by omega)
    rw [← Nat.add_assoc] at this
    exact this
  · intro hr
    have e1 : (n + 1) * size ≤ cap * size := Nat.mul_le_mul_right _ hr
    rw [Nat.add_mul, Nat.one_mul] at e1
    have hin := World.cell?_setCells_in g news (off + n * size) w (fun j hj => by
      have := (g6 (n * size + j) (by omega)).1
      rw [← Nat.add_assoc] at this
      exact this)
    refine hK _ _ ⟨by rw [List.length_append, Nat.add_mul]; omega, g, off, cap, rfl, g2, by have := (grown_setCells g news (off + n * size) w).size; omega, by omega, fun j u hu => ?_, fun j hj => ?_⟩ (by rw [hv]; exact grown_setCells g news _ w) (fun k hk => by rw [hv]; exact .inl hk)
    · by_cases hj : j < xs.length
      · rw [List.getElem?_append_left hj] at hu
        rw [World.cell?_setCells_out g news _ w ⟨g, off + j, none⟩ (fun _ _ => .inl (by show off + j < off + n * size; omega))]
        exact g5 j u hu
      · rw [List.getElem?_append_right (by omega)] at hu
        obtain ⟨q1, q2⟩ := List.getElem?_eq_some_iff.1 hu
        have := hin (j - xs.length) q1
        rw [show off + n * size + (j - xs.length) = off + j by omega, q2] at this
        exact this
    · refine ⟨?_, by rw [World.frozen?_setCells]; exact (g6 j hj).2⟩
      by_cases hj2 : n * size ≤ j ∧ j < n * size + news.length
      · have := hin (j - n * size) (by omega)
        rw [show off + n * size + (j - n * size) = off + j by omega] at this
        rw [this]
        rfl
      · rw [World.cell?_setCells_out g news _ w ⟨g, off + j, none⟩ (fun _ _ => by show off + j < off + n * size ∨ off + n * size + news.length ≤ off + j; omega)]
        exact (g6 j hj).1
  · intro hr v' w' ho hgr
    exact hK v' w' (Mid.of_owns ho (by omega) hbase) ⟨hgr.os, hgr.tape, hgr.output, hgr.size, fun k hk _ => hgr.block k hk (by simp)⟩ (fun k hk => .inr (ho.lt k hk))
end Go.Proofs.Ytijelimpkcnbjaa
