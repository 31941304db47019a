/- Rows that a call owns, as lists of elements of several one-cell fields: what marks, loops and appends leave. No program is named. -/
import Derived.Test.YtceedmejmmoepaaDoorRows0
import Derived.Laws.NewBlocks
namespace Go.Proofs.YtceedmejmmoepaaDoor
open Go.RowKit Go.ChangeShapes Go.WideShapes Go.Deep
set_option linter.unusedVariables false

/-- The slice value '.slice A n c' is nil and empty, or begins at the head of a row of the call's own (numbers from base on) that reads as xs. -/
def ORow {α : Type} (T : TypeId) (size : Nat) (cells : α → List Value) (w : World) (base : Nat) (A : Option Addr) (n : Nat) (xs : List α) : Prop :=
  xs.length = n ∧ ((A = none ∧ n = 0) ∨ ∃ g m f, A = some ⟨g, 0, none⟩ ∧ base ≤ g ∧ w.rowIs g T m f ∧ n * size ≤ m ∧ ∀ i x, xs[i]? = some x → ∀ j u, (cells x)[j]? = some u → i * size + j < m ∧ f (i * size + j) = u)

theorem grown_below {w w' : World} (h : Below w.heap.size w w') (row : Option Nat) : w.grownBy w' row := ⟨h.os, h.tape, h.output, h.size, fun k hk _ => h.block k hk⟩
theorem grown_refl (w : World) (row : Option Nat) : w.grownBy w row := ⟨rfl, rfl, rfl, Nat.le_refl _, fun _ _ _ => rfl⟩
theorem grown_trans {a b c : World} {row : Option Nat} (h : a.grownBy b row) (k : b.grownBy c row) : a.grownBy c row :=
  ⟨k.os.trans h.os, k.tape.trans h.tape, k.output.trans h.output, Nat.le_trans h.size k.size, fun i hi hr => (k.block i (Nat.lt_of_lt_of_le hi h.size) hr).trans (h.block i hi hr)⟩
theorem grown_set {w : World} {g o : Nat} {v : Value} : w.grownBy (w.setCell ⟨g, o, none⟩ v) (some g) :=
  ⟨rfl, rfl, rfl, by simp [World.setCell], fun k _ hr => Below.heap_setCell _ _ _ _ (fun e => hr (by rw [e]))⟩
theorem grown_put {g : Nat} : ∀ (vs : List Value) (w : World) (o : Nat), w.grownBy (putRow w g o vs) (some g)
  | [], w, _ => grown_refl w _
  | v :: vs, w, o => grown_trans grown_set (grown_put vs _ _)
/-- A write to a row of one's own is one step of the chain. -/
theorem below_grown {B : Nat} {a w w' : World} {A : Option Addr} (h : Below B a w) (hB : B ≤ w.heap.size) (hg : w.grownBy w' (A.map (·.block))) (hA : ∀ p, A = some p → B ≤ p.block) : Below B a w' :=
  h.grown hg hB fun k hk => by
    cases A with
    | none => cases hk
    | some p => cases hk; exact hA p rfl

theorem cell_new {w : World} {cs : Array Value} {t : TypeId} {b o : Nat} {u : Value} (hb : b = w.heap.size) (h : cs[o]? = some u) : (w.alloc (.cells cs t)).cell? ⟨b, o, none⟩ = some u := by
  rw [World.cell?_alloc_at _ _ _ _ hb]
  exact h
theorem cell_on {w : World} {p : Addr} {u : Value} (h : w.cell? p = some u) (o : Obj) : (w.alloc o).cell? p = some u := by
  rw [(below_a1 w o).cell (World.block_lt_of_cell? w p h)]
  exact h
theorem own_block {w w1 : World} {cs : Array Value} {t : TypeId} (hb : Below (w.alloc (.cells cs t)).heap.size (w.alloc (.cells cs t)) w1) : w1.heap[w.heap.size]? = some (.cells cs t) := (hb.block _ (by simp)).trans (heap_alloc_new _ _)
theorem own_cell {w1 : World} {R : Nat} {cs : Array Value} {t : TypeId} (h : w1.heap[R]? = some (.cells cs t)) {o : Nat} {u : Value} (ho : cs[o]? = some u) : w1.cell? ⟨R, o, none⟩ = some u := by simp [World.cell?, h, ho]
theorem own_frozen {w1 : World} {R : Nat} {cs : Array Value} {t : TypeId} (h : w1.heap[R]? = some (.cells cs t)) (o : Nat) : w1.frozen? ⟨R, o, none⟩ = false := by simp [World.frozen?, h]
theorem own_lt {w1 : World} {R : Nat} {o : Obj} (h : w1.heap[R]? = some o) : R < w1.heap.size := (Array.getElem?_eq_some_iff.1 h).1
theorem cell_step {w w' : World} {p : Addr} {u : Value} (h : w.cell? p = some u) (hb : Below w.heap.size w w') : w'.cell? p = some u := (hb.cell (World.block_lt_of_cell? w p h)).trans h

section
variable {α : Type} {T : TypeId} {size : Nat} {cells : α → List Value} {w w' : World} {base : Nat} {A : Option Addr} {n : Nat} {xs : List α}
theorem ORow.srow (h : ORow T size cells w base A n xs) : SRow size cells w A n xs := by
  rcases h with ⟨hl, ⟨rfl, rfl⟩ | ⟨g, m, f, rfl, _, hr, _, hf⟩⟩
  · exact ⟨hl, fun h => absurd h (by omega)⟩
  · exact SRow.of_row hr hl hf
theorem ORow.own (h : ORow T size cells w base A n xs) : ∀ p, A = some p → base ≤ p.block := by
  rcases h with ⟨_, ⟨rfl, _⟩ | ⟨g, m, f, rfl, hb, _⟩⟩
  · exact fun p hp => by cases hp
  · exact fun p hp => by cases hp; exact hb
theorem ORow.lt (h : ORow T size cells w base A n xs) : ∀ p, A = some p → p.block < w.heap.size := by
  rcases h with ⟨_, ⟨rfl, _⟩ | ⟨g, m, f, rfl, _, hr, _⟩⟩
  · exact fun p hp => by cases hp
  · exact fun p hp => by cases hp; exact hr.lt
theorem ORow.block (h : ORow T size cells w base A n xs) (hb : ∀ p, A = some p → w'.heap[p.block]? = w.heap[p.block]?) : ORow T size cells w' base A n xs := by
  rcases h with ⟨hl, h | ⟨g, m, f, rfl, hb', hr, hm, hf⟩⟩
  · exact ⟨hl, .inl h⟩
  · exact ⟨hl, .inr ⟨g, m, f, rfl, hb', hr.of_block (hb _ rfl), hm, hf⟩⟩
theorem ORow.below (h : ORow T size cells w base A n xs) (hb : Below w.heap.size w w') : ORow T size cells w' base A n xs := h.block fun p hp => hb.block _ (h.lt p hp)
/-- An older row is written. -/
theorem ORow.kept {B : Option Addr} (h : ORow T size cells w base A n xs) (hg : w.grownBy w' (B.map (·.block))) (hlt : ∀ p, B = some p → p.block < base) : ORow T size cells w' base A n xs :=
  h.block fun p hp => hg.block _ (h.lt p hp) (by
    cases B with
    | none => simp
    | some q => have h1 := h.own p hp; have h2 := hlt q rfl; simp; omega)
theorem ORow.mono {b' : Nat} (h : ORow T size cells w base A n xs) (hb : b' ≤ base) : ORow T size cells w b' A n xs := by
  rcases h with ⟨hl, h | ⟨g, m, f, rfl, hb', hr⟩⟩
  · exact ⟨hl, .inl h⟩
  · exact ⟨hl, .inr ⟨g, m, f, rfl, Nat.le_trans hb hb', hr⟩⟩
theorem ORow.nil_ : ORow T size cells w base none 0 [] := ⟨rfl, .inl ⟨rfl, rfl⟩⟩
theorem ORow.of_filled {g : Nat} (h : Filled size cells w g T (n * size) xs n) (hn : xs.length = n) (hb : base ≤ g) (hlen : ∀ y, (cells y).length = size) : ORow T size cells w base (some ⟨g, 0, none⟩) n xs := by
  obtain ⟨f, hr, hf⟩ := h
  refine ⟨hn, .inr ⟨g, _, f, rfl, hb, hr, Nat.le_refl _, fun i x hx j u hu => ?_⟩⟩
  have hi : i < n := by rw [← hn]; exact (List.getElem?_eq_some_iff.1 hx).1
  have hj : j < size := by rw [← hlen x]; exact (List.getElem?_eq_some_iff.1 hu).1
  refine ⟨?_, hf i x hi hx j u hu⟩
  have : (i + 1) * size ≤ n * size := Nat.mul_le_mul_right size hi
  rw [Nat.add_mul] at this
  omega
/-- Marked from its head on: all of it is new. -/
theorem ORow.of_marked {g m : Nat} {ys : List α} (h : Filled size cells w g T m ys n) (hm : n * size ≤ m) (hn : ys.length = n) (hb : base ≤ g) (hlen : ∀ y, (cells y).length = size) : ORow T size cells w base (some ⟨g, 0, none⟩) n ys := by
  obtain ⟨f, hr, hf⟩ := h
  refine ⟨hn, .inr ⟨g, _, f, rfl, hb, hr, hm, fun i x hx j u hu => ?_⟩⟩
  have hi : i < n := by rw [← hn]; exact (List.getElem?_eq_some_iff.1 hx).1
  have hj : j < size := by rw [← hlen x]; exact (List.getElem?_eq_some_iff.1 hu).1
  refine ⟨?_, hf i x hi hx j u hu⟩
  have : (i + 1) * size ≤ n * size := Nat.mul_le_mul_right size hi
  rw [Nat.add_mul] at this
  omega

theorem flat_length (hlen : ∀ y, (cells y).length = size) : ∀ ys : List α, (ys.flatMap cells).length = ys.length * size
  | [] => by simp
  | y :: ys => by rw [List.flatMap_cons, List.length_append, hlen, flat_length hlen ys, List.length_cons, Nat.add_mul]; omega
theorem flat_at (hlen : ∀ y, (cells y).length = size) : ∀ (ys : List α) (i : Nat) (x : α) (j : Nat) (u : Value), ys[i]? = some x → (cells x)[j]? = some u → (ys.flatMap cells)[i * size + j]? = some u
  | [], i, x, j, u, hx, _ => by simp at hx
  | y :: ys, 0, x, j, u, hx, hu => by
    simp at hx
    subst hx
    rw [List.flatMap_cons, Nat.zero_mul, Nat.zero_add, List.getElem?_append_left (List.getElem?_eq_some_iff.1 hu).1]
    exact hu
  | y :: ys, i + 1, x, j, u, hx, hu => by
    rw [List.getElem?_cons_succ] at hx
    have h := flat_at hlen ys i x j u hx hu
    have e : (i + 1) * size + j = (cells y).length + (i * size + j) := by rw [hlen, Nat.add_mul]; omega
    rw [List.flatMap_cons, e, List.getElem?_append_right (Nat.le_add_right _ _), Nat.add_sub_cancel_left]
    exact h
/-- What append and make leave, read so. -/
theorem ORow.of_owns {v : Value} {ys : List α} (hlen : ∀ y, (cells y).length = size) (h : w.ownsRow base T size v ys.length (ys.flatMap cells)) : ∃ A c, v = .slice A ys.length c ∧ ORow T size cells w base A ys.length ys := by
  obtain ⟨_, ⟨rfl, hn⟩ | ⟨g, cap, cur, rfl, hb, hg, hc, hm, hs, ht⟩⟩ := h
  · rw [hn]
    exact ⟨none, 0, rfl, hn, .inl ⟨rfl, rfl⟩⟩
  · have hle : ys.length * size ≤ cur.size := by rw [hs]; exact Nat.mul_le_mul_right _ hc
    refine ⟨some ⟨g, 0, none⟩, cap, rfl, rfl, .inr ⟨g, cur.size, fun i => (cur[i]?).getD undef, rfl, hb, ⟨cur, hg, rfl, fun i hi => by simp [Array.getElem?_eq_getElem hi]⟩, hle, fun i x hx j u hu => ?_⟩⟩
    have hf := flat_at hlen ys i x j u hx hu
    have hi : i < ys.length := (List.getElem?_eq_some_iff.1 hx).1
    have hj : j < size := by rw [← hlen x]; exact (List.getElem?_eq_some_iff.1 hu).1
    have h2 : (i + 1) * size ≤ ys.length * size := Nat.mul_le_mul_right size hi
    rw [Nat.add_mul] at h2
    refine ⟨by omega, ?_⟩
    rw [← ht, List.getElem?_take] at hf
    split at hf
    · rw [Array.getElem?_toList] at hf
      simp [hf]
    · cases hf
/-- A row keeps its list while another one is written. -/
theorem SRow.kept {B : Option Addr} (h : SRow size cells w A n xs) (hg : w.grownBy w' (B.map (·.block))) (hne : ∀ p q, A = some p → B = some q → p.block ≠ q.block) : SRow size cells w' A n xs :=
  ⟨h.1, fun hn => by
    obtain ⟨b, off, e, hb, hc⟩ := h.2 hn
    subst e
    have hk : w'.heap[b]? = w.heap[b]? := hg.block b hb (by
      cases B with
      | none => simp
      | some q => simpa using hne _ _ rfl rfl)
    exact ⟨b, off, rfl, Nat.lt_of_lt_of_le hb hg.size, fun i x hx j u hu => (World.cell?_of_block (a := ⟨b, _, none⟩) hk).trans (hc i x hx j u hu)⟩⟩
end

/-- An older row keeps its list while a newer one is written. -/
theorem SRow.above {α : Type} {size : Nat} {cells : α → List Value} {w w' wk : World} {A B : Option Addr} {n : Nat} {xs ys : List α} (h : SRow size cells w A n xs) (hk : SRow size cells wk A n ys) (hg : w.grownBy w' (B.map (·.block))) (hB : ∀ q, B = some q → wk.heap.size ≤ q.block) : SRow size cells w' A n xs :=
  ⟨h.1, fun hn => by
    obtain ⟨b, off, e, hb, hc⟩ := h.2 hn
    obtain ⟨b', off', e', hb', _⟩ := hk.2 hn
    rw [e] at e'
    cases e'
    have hkk : w'.heap[b]? = w.heap[b]? := hg.block b hb (by
      cases B with
      | none => simp
      | some q => have h2 := hB q rfl; simp; omega)
    exact ⟨b, off, e, Nat.lt_of_lt_of_le hb hg.size, fun i x hx j u hu => (World.cell?_of_block (a := ⟨b, _, none⟩) hkk).trans (hc i x hx j u hu)⟩⟩
theorem cell_grown {w w' : World} {B : Option Addr} {a : Addr} {v : Value} (h : w.cell? a = some v) (hg : w.grownBy w' (B.map (·.block))) (hB : ∀ q, B = some q → a.block < q.block) : w'.cell? a = some v :=
  hg.cell h (by
    cases B with
    | none => simp
    | some q => have h2 := hB q rfl; simp; omega)
/-- Cells that a region reads, behind a call that makes blocks of its own. -/
theorem kept5 {wr wx w1 : World} {p0 p1 p2 p3 p4 : Addr} {v0 v1 v2 v3 v4 : Value} (h : Below wr.heap.size wr wx ∧ wx.cell? p0 = some v0 ∧ wx.cell? p1 = some v1 ∧ wx.cell? p2 = some v2 ∧ wx.cell? p3 = some v3 ∧ wx.cell? p4 = some v4) (hb : Below wx.heap.size wx w1) :
    Below wr.heap.size wr w1 ∧ w1.cell? p0 = some v0 ∧ w1.cell? p1 = some v1 ∧ w1.cell? p2 = some v2 ∧ w1.cell? p3 = some v3 ∧ w1.cell? p4 = some v4 := by
  obtain ⟨hB, c0, c1, c2, c3, c4⟩ := h
  exact ⟨hB.step hb, cell_step c0 hb, cell_step c1 hb, cell_step c2 hb, cell_step c3 hb, cell_step c4 hb⟩
theorem kept9 {wr wx w1 : World} {p0 p1 p2 p3 p4 p5 p6 p7 p8 : Addr} {v0 v1 v2 v3 v4 v5 v6 v7 v8 : Value}
    (h : Below wr.heap.size wr wx ∧ wx.cell? p0 = some v0 ∧ wx.cell? p1 = some v1 ∧ wx.cell? p2 = some v2 ∧ wx.cell? p3 = some v3 ∧ wx.cell? p4 = some v4 ∧ wx.cell? p5 = some v5 ∧ wx.cell? p6 = some v6 ∧ wx.cell? p7 = some v7 ∧ wx.cell? p8 = some v8) (hb : Below wx.heap.size wx w1) :
    Below wr.heap.size wr w1 ∧ w1.cell? p0 = some v0 ∧ w1.cell? p1 = some v1 ∧ w1.cell? p2 = some v2 ∧ w1.cell? p3 = some v3 ∧ w1.cell? p4 = some v4 ∧ w1.cell? p5 = some v5 ∧ w1.cell? p6 = some v6 ∧ w1.cell? p7 = some v7 ∧ w1.cell? p8 = some v8 := by
  obtain ⟨hB, c0, c1, c2, c3, c4, c5, c6, c7, c8⟩ := h
  exact ⟨hB.step hb, cell_step c0 hb, cell_step c1 hb, cell_step c2 hb, cell_step c3 hb, cell_step c4 hb, cell_step c5 hb, cell_step c6 hb, cell_step c7 hb, cell_step c8 hb⟩
theorem kept1 {wr wx w1 : World} {p0 : Addr} {v0 : Value} (h : Below wr.heap.size wr wx ∧ wx.cell? p0 = some v0) (hb : Below wx.heap.size wx w1) : Below wr.heap.size wr w1 ∧ w1.cell? p0 = some v0 := by
  obtain ⟨hB, c0⟩ := h
  exact ⟨hB.step hb, cell_step c0 hb⟩
theorem kept2 {wr wx w1 : World} {p0 p1 : Addr} {v0 v1 : Value} (h : Below wr.heap.size wr wx ∧ wx.cell? p0 = some v0 ∧ wx.cell? p1 = some v1) (hb : Below wx.heap.size wx w1) : Below wr.heap.size wr w1 ∧ w1.cell? p0 = some v0 ∧ w1.cell? p1 = some v1 := by
  obtain ⟨hB, c0, c1⟩ := h
  exact ⟨hB.step hb, cell_step c0 hb, cell_step c1 hb⟩
theorem kept3 {wr wx w1 : World} {p0 p1 p2 : Addr} {v0 v1 v2 : Value} (h : Below wr.heap.size wr wx ∧ wx.cell? p0 = some v0 ∧ wx.cell? p1 = some v1 ∧ wx.cell? p2 = some v2) (hb : Below wx.heap.size wx w1) : Below wr.heap.size wr w1 ∧ w1.cell? p0 = some v0 ∧ w1.cell? p1 = some v1 ∧ w1.cell? p2 = some v2 := by
  obtain ⟨hB, c0, c1, c2⟩ := h
  exact ⟨hB.step hb, cell_step c0 hb, cell_step c1 hb, cell_step c2 hb⟩
theorem kept6 {wr wx w1 : World} {p0 p1 p2 p3 p4 p5 : Addr} {v0 v1 v2 v3 v4 v5 : Value} (h : Below wr.heap.size wr wx ∧ wx.cell? p0 = some v0 ∧ wx.cell? p1 = some v1 ∧ wx.cell? p2 = some v2 ∧ wx.cell? p3 = some v3 ∧ wx.cell? p4 = some v4 ∧ wx.cell? p5 = some v5) (hb : Below wx.heap.size wx w1) : Below wr.heap.size wr w1 ∧ w1.cell? p0 = some v0 ∧ w1.cell? p1 = some v1 ∧ w1.cell? p2 = some v2 ∧ w1.cell? p3 = some v3 ∧ w1.cell? p4 = some v4 ∧ w1.cell? p5 = some v5 := by
  obtain ⟨hB, c0, c1, c2, c3, c4, c5⟩ := h
  exact ⟨hB.step hb, cell_step c0 hb, cell_step c1 hb, cell_step c2 hb, cell_step c3 hb, cell_step c4 hb, cell_step c5 hb⟩
theorem kept7 {wr wx w1 : World} {p0 p1 p2 p3 p4 p5 p6 : Addr} {v0 v1 v2 v3 v4 v5 v6 : Value} (h : Below wr.heap.size wr wx ∧ wx.cell? p0 = some v0 ∧ wx.cell? p1 = some v1 ∧ wx.cell? p2 = some v2 ∧ wx.cell? p3 = some v3 ∧ wx.cell? p4 = some v4 ∧ wx.cell? p5 = some v5 ∧ wx.cell? p6 = some v6) (hb : Below wx.heap.size wx w1) : Below wr.heap.size wr w1 ∧ w1.cell? p0 = some v0 ∧ w1.cell? p1 = some v1 ∧ w1.cell? p2 = some v2 ∧ w1.cell? p3 = some v3 ∧ w1.cell? p4 = some v4 ∧ w1.cell? p5 = some v5 ∧ w1.cell? p6 = some v6 := by
  obtain ⟨hB, c0, c1, c2, c3, c4, c5, c6⟩ := h
  exact ⟨hB.step hb, cell_step c0 hb, cell_step c1 hb, cell_step c2 hb, cell_step c3 hb, cell_step c4 hb, cell_step c5 hb, cell_step c6 hb⟩
theorem kept8 {wr wx w1 : World} {p0 p1 p2 p3 p4 p5 p6 p7 : Addr} {v0 v1 v2 v3 v4 v5 v6 v7 : Value} (h : Below wr.heap.size wr wx ∧ wx.cell? p0 = some v0 ∧ wx.cell? p1 = some v1 ∧ wx.cell? p2 = some v2 ∧ wx.cell? p3 = some v3 ∧ wx.cell? p4 = some v4 ∧ wx.cell? p5 = some v5 ∧ wx.cell? p6 = some v6 ∧ wx.cell? p7 = some v7) (hb : Below wx.heap.size wx w1) : Below wr.heap.size wr w1 ∧ w1.cell? p0 = some v0 ∧ w1.cell? p1 = some v1 ∧ w1.cell? p2 = some v2 ∧ w1.cell? p3 = some v3 ∧ w1.cell? p4 = some v4 ∧ w1.cell? p5 = some v5 ∧ w1.cell? p6 = some v6 ∧ w1.cell? p7 = some v7 := by
  obtain ⟨hB, c0, c1, c2, c3, c4, c5, c6, c7⟩ := h
  exact ⟨hB.step hb, cell_step c0 hb, cell_step c1 hb, cell_step c2 hb, cell_step c3 hb, cell_step c4 hb, cell_step c5 hb, cell_step c6 hb, cell_step c7 hb⟩
theorem kept10 {wr wx w1 : World} {p0 p1 p2 p3 p4 p5 p6 p7 p8 p9 : Addr} {v0 v1 v2 v3 v4 v5 v6 v7 v8 v9 : Value} (h : Below wr.heap.size wr wx ∧ wx.cell? p0 = some v0 ∧ wx.cell? p1 = some v1 ∧ wx.cell? p2 = some v2 ∧ wx.cell? p3 = some v3 ∧ wx.cell? p4 = some v4 ∧ wx.cell? p5 = some v5 ∧ wx.cell? p6 = some v6 ∧ wx.cell? p7 = some v7 ∧ wx.cell? p8 = some v8 ∧ wx.cell? p9 = some v9) (hb : Below wx.heap.size wx w1) : Below wr.heap.size wr w1 ∧ w1.cell? p0 = some v0 ∧ w1.cell? p1 = some v1 ∧ w1.cell? p2 = some v2 ∧ w1.cell? p3 = some v3 ∧ w1.cell? p4 = some v4 ∧ w1.cell? p5 = some v5 ∧ w1.cell? p6 = some v6 ∧ w1.cell? p7 = some v7 ∧ w1.cell? p8 = some v8 ∧ w1.cell? p9 = some v9 := by
  obtain ⟨hB, c0, c1, c2, c3, c4, c5, c6, c7, c8, c9⟩ := h
  exact ⟨hB.step hb, cell_step c0 hb, cell_step c1 hb, cell_step c2 hb, cell_step c3 hb, cell_step c4 hb, cell_step c5 hb, cell_step c6 hb, cell_step c7 hb, cell_step c8 hb, cell_step c9 hb⟩
theorem kept12 {wr wx w1 : World} {p0 p1 p2 p3 p4 p5 p6 p7 p8 p9 p10 p11 : Addr} {v0 v1 v2 v3 v4 v5 v6 v7 v8 v9 v10 v11 : Value} (h : Below wr.heap.size wr wx ∧ wx.cell? p0 = some v0 ∧ wx.cell? p1 = some v1 ∧ wx.cell? p2 = some v2 ∧ wx.cell? p3 = some v3 ∧ wx.cell? p4 = some v4 ∧ wx.cell? p5 = some v5 ∧ wx.cell? p6 = some v6 ∧ wx.cell? p7 = some v7 ∧ wx.cell? p8 = some v8 ∧ wx.cell? p9 = some v9 ∧ wx.cell? p10 = some v10 ∧ wx.cell? p11 = some v11) (hb : Below wx.heap.size wx w1) : Below wr.heap.size wr w1 ∧ w1.cell? p0 = some v0 ∧ w1.cell? p1 = some v1 ∧ w1.cell? p2 = some v2 ∧ w1.cell? p3 = some v3 ∧ w1.cell? p4 = some v4 ∧ w1.cell? p5 = some v5 ∧ w1.cell? p6 = some v6 ∧ w1.cell? p7 = some v7 ∧ w1.cell? p8 = some v8 ∧ w1.cell? p9 = some v9 ∧ w1.cell? p10 = some v10 ∧ w1.cell? p11 = some v11 := by
  obtain ⟨hB, c0, c1, c2, c3, c4, c5, c6, c7, c8, c9, c10, c11⟩ := h
  exact ⟨hB.step hb, cell_step c0 hb, cell_step c1 hb, cell_step c2 hb, cell_step c3 hb, cell_step c4 hb, cell_step c5 hb, cell_step c6 hb, cell_step c7 hb, cell_step c8 hb, cell_step c9 hb, cell_step c10 hb, cell_step c11 hb⟩
theorem quiet_l {P : Program} {f : FuncId} {args : Array Value} {w : World} {n : Nat} {v : Value}
    (h : Calls P f args (w.drewN n) fun e w' => e = .returned v ∧ w.drewN n = w') : Calls P f args (w.drewN n) fun e w'' => e = .returned v ∧ ∃ m, w'' = w.drewN m :=
  h.mono fun _ _ ⟨he, hm⟩ => ⟨he, n, hm.symm⟩
theorem SRow.take {α : Type} {size : Nat} {cells : α → List Value} {w : World} {A : Option Addr} {n : Nat} {xs : List α} (h : SRow size cells w A n xs) {k : Nat} (hk : k ≤ n) : SRow size cells w A k (xs.take k) :=
  ⟨by rw [List.length_take, h.1]; omega, fun hn => by
    obtain ⟨b, off, e, hb, hc⟩ := h.2 (by omega)
    refine ⟨b, off, e, hb, fun i x hx j u hu => hc i x ?_ j u hu⟩
    rw [List.getElem?_take] at hx
    split at hx
    · exact hx
    · cases hx⟩

/-- n marks from k on. -/
def marksOf {α : Type} (F : Nat) (mk : Int → α) (k : Int) (n : Nat) : List α := (List.range n).map fun (i : Nat) => mk (k + (F : Int) * (i : Int))
theorem marksOf_length {α : Type} (F : Nat) (mk : Int → α) (k : Int) (n : Nat) : (marksOf F mk k n).length = n := by simp [marksOf]
theorem marksOf_at {α : Type} {F : Nat} {mk : Int → α} {k : Int} {n i : Nat} (h : i < n) : (marksOf F mk k n)[i]? = some (mk (k + (F : Int) * (i : Int))) := by
  simp [marksOf, h]
/-- One element more, field by field. -/
theorem Filled.next {α : Type} {size : Nat} {cells : α → List Value} {w' : World} {g : Nat} {t : TypeId} {m : Nat} {xs : List α} {j : Nat} {f f2 : Nat → Value} {x : α}
    (hf : ∀ i x, i < j → xs[i]? = some x → ∀ q u, (cells x)[q]? = some u → f (i * size + q) = u) (hrow : w'.rowIs g t m f2) (hx : xs[j]? = some x) (hlen : ∀ y, (cells y).length = size)
    (hout : ∀ p, p < j * size → f2 p = f p) (hin : ∀ q u, (cells x)[q]? = some u → f2 (j * size + q) = u) : Filled size cells w' g t m xs (j + 1) := by
  refine ⟨f2, hrow, fun i y hi hy q u hu => ?_⟩
  have hq : q < size := by
    rw [← hlen y]
    exact (List.getElem?_eq_some_iff.1 hu).1
  rcases Nat.lt_or_ge i j with h | h
  · have hm : (i + 1) * size ≤ j * size := Nat.mul_le_mul_right _ (by omega)
    rw [Nat.add_mul, Nat.one_mul] at hm
    rw [hout _ (by omega)]
    exact hf i y h hy q u hu
  · obtain rfl : i = j := by omega
    rw [hx] at hy
    cases hy
    exact hin q u hu
theorem kept4a {wr wx w1 : World} {p0 p1 p2 p3 : Addr} {v0 v1 v2 v3 : Value} (h : Below wr.heap.size wr wx ∧ wx.cell? p0 = some v0 ∧ wx.cell? p1 = some v1 ∧ wx.cell? p2 = some v2 ∧ wx.cell? p3 = some v3) (hb : Below wx.heap.size wx w1) : Below wr.heap.size wr w1 ∧ w1.cell? p0 = some v0 ∧ w1.cell? p1 = some v1 ∧ w1.cell? p2 = some v2 ∧ w1.cell? p3 = some v3 := by
  obtain ⟨hB, c0, c1, c2, c3⟩ := h
  exact ⟨hB.step hb, cell_step c0 hb, cell_step c1 hb, cell_step c2 hb, cell_step c3 hb⟩
end Go.Proofs.YtceedmejmmoepaaDoor
