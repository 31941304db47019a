/- Slices of structs that read as lists: a struct of several one-cell fields; nil let in. No program is named. -/
import Derived.Below
import Derived.Laws.OwnMore
import Derived.Deep.Slices
import Derived.Deep.Fields
import Derived.Deep.OwnRows
import Derived.Deep.Draws
import Derived.ChangeSame
import Derived.Laws.MakeOwn
import Derived.Laws.Entries
import Derived.Lib.Hide
namespace Go.Proofs.YtceedmejmmoepaaDoor
set_option linter.unusedVariables false
open Go.RowKit Go.ChangeShapes Go.WideShapes Go.Deep

theorem below_drewN {B : Nat} {a w : World} (h : Below B a w) (n : Nat) : Below B a (w.drewN n) := ⟨h.os, h.tape, h.output, h.size, h.block⟩

/-- One call behind another. -/
theorem _root_.Go.RowKit.Below.step {a b c : World} (h : Below a.heap.size a b) (k : Below b.heap.size b c) : Below a.heap.size a c := h.trans (k.mono h.size)

/-- Behind a call: all cells and marks of the older blocks are as they were. -/
theorem bcell {W w1 : World} (hb : Below W.heap.size W w1) : (∀ b o, b < W.heap.size → w1.cell? ⟨b, o, none⟩ = W.cell? ⟨b, o, none⟩) ∧ (∀ b o, b < W.heap.size → w1.frozen? ⟨b, o, none⟩ = W.frozen? ⟨b, o, none⟩) :=
  ⟨fun b o h => hb.cell (p := ⟨b, o, none⟩) h, fun b o h => hb.frozen (p := ⟨b, o, none⟩) h⟩

theorem ret_i64 {a b : Int} (h : a = b) : Ending.returned (.int .i64 a) = .returned (.int .i64 b) := by rw [h]
theorem ret_bo {a b : Bool} (h : a = b) : Ending.returned (.bool a) = .returned (.bool b) := by rw [h]

/-- The slice value '.slice A n c' reads as the list xs: element i takes 'size' cells, those of 'cells'. -/
def SRow {α : Type} (size : Nat) (cells : α → List Value) (w : World) (A : Option Addr) (n : Nat) (xs : List α) : Prop :=
  xs.length = n ∧ (0 < n → ∃ b off, A = some ⟨b, off, none⟩ ∧ b < w.heap.size ∧ ∀ i x, xs[i]? = some x → ∀ j u, (cells x)[j]? = some u → w.cell? ⟨b, off + i * size + j, none⟩ = some u)

section
variable {α : Type} {size : Nat} {cells : α → List Value} {w w' : World} {A : Option Addr} {n : Nat} {xs : List α}
theorem SRow.at_ (h : SRow size cells w A n xs) {k : Nat} (hk : k < n) : ∃ b off x, A = some ⟨b, off, none⟩ ∧ b < w.heap.size ∧ xs[k]? = some x ∧ ∀ j u, (cells x)[j]? = some u → w.cell? ⟨b, off + k * size + j, none⟩ = some u := by
  obtain ⟨b, off, e, hb, hc⟩ := h.2 (by omega)
  have hl : k < xs.length := by have := h.1; omega
  exact ⟨b, off, xs[k], e, hb, List.getElem?_eq_getElem hl, hc k _ (List.getElem?_eq_getElem hl)⟩
theorem SRow.keep (h : SRow size cells w A n xs) (hz : w.heap.size ≤ w'.heap.size) (hk : ∀ p : Addr, p.block < w.heap.size → w'.cell? p = w.cell? p) : SRow size cells w' A n xs :=
  ⟨h.1, fun hn => by
    obtain ⟨b, off, e, hb, hc⟩ := h.2 hn
    exact ⟨b, off, e, Nat.lt_of_lt_of_le hb hz, fun i x hx j u hu => (hk _ hb).trans (hc i x hx j u hu)⟩⟩
theorem SRow.below (h : SRow size cells w A n xs) (hb : Below w.heap.size w w') : SRow size cells w' A n xs := h.keep hb.size fun _ hp => hb.cell hp
theorem SRow.drewN (h : SRow size cells w A n xs) (k : Nat) : SRow size cells (w.drewN k) A n xs := h
theorem SRow.nil_ : SRow size cells w A 0 [] := ⟨rfl, fun h => absurd h (by omega)⟩
theorem SRow.of_row {g : Nat} {t : TypeId} {m : Nat} {f : Nat → Value} (h : w.rowIs g t m f) (hlen : xs.length = n) (hf : ∀ i x, xs[i]? = some x → ∀ j u, (cells x)[j]? = some u → i * size + j < m ∧ f (i * size + j) = u) : SRow size cells w (some ⟨g, 0, none⟩) n xs :=
  ⟨hlen, fun _ => ⟨g, 0, rfl, h.lt, fun i x hx j u hu => by
    obtain ⟨h1, h2⟩ := hf i x hx j u hu
    rw [Nat.zero_add, ← h2]
    exact h.cell h1⟩⟩
end

theorem list_of_lt {α : Type} {p : Nat → α → Prop} : ∀ n, (∀ i, i < n → ∃ x, p i x) → ∃ l : List α, l.length = n ∧ ∀ i x, l[i]? = some x → p i x
  | 0, _ => ⟨[], rfl, fun i x h => by simp at h⟩
  | n + 1, h => by
    obtain ⟨l, hl, hp⟩ := list_of_lt n fun i hi => h i (by omega)
    obtain ⟨x, hx⟩ := h n (by omega)
    refine ⟨l ++ [x], by simp [hl], fun i y hy => ?_⟩
    rcases Nat.lt_or_ge i n with hi | hi
    · rw [List.getElem?_append_left (by omega)] at hy
      exact hp i y hy
    · rw [List.getElem?_append_right (by omega)] at hy
      obtain rfl : i = n := by
        rcases Nat.lt_or_ge (i - l.length) 1 with h1 | h1
        · omega
        · rw [List.getElem?_eq_none (by simpa using h1)] at hy; cases hy
      simp [hl] at hy
      subst hy
      exact hx

/-- make([]T, n), T of several cells. -/
theorem run_make_many {P : Program} (t e : TypeId) (i : TypeInfo) (z : Value) (ht : P.underlying t = some (.slice e)) (hi : P.info? e = some i) (hz : i.zero = some z)
    (kl kc : IntKind) (n : Nat) (hbytes : i.bytes * n ≤ 281474976710656) (h63 : n ≤ 9223372036854775807) (w : World) :
    (Instr.makeSlice t (.int kl (n : Int)) (.int kc (n : Int))).run P w = .ok (.slice (some ⟨w.heap.size, 0, none⟩) n n) (w.alloc (.cells (madeCells z.cells (n * i.size)) e)) := by
  have hb : (i.bytes : Int) * (n : Int) ≤ 281474976710656 := by
    have h : ((i.bytes * n : Nat) : Int) ≤ 281474976710656 := by omega
    rwa [Int.natCast_mul] at h
  have hr := run_make (P := P) w t e i z ht hi hz kl kc n n (by omega) (by omega) hb (by omega)
  simp only [Int.toNat_natCast] at hr
  exact hr

theorem made_row (w : World) (z : Array Value) (m : Nat) (t : TypeId) : (w.alloc (.cells (madeCells z m) t)).rowIs w.heap.size t m (fun j => (madeCells z m)[j]?.getD undef) :=
  ⟨_, by simpa using heap_alloc_new w _, size_madeCells _ _, fun i hi => by
    have : i < (madeCells z m).size := by rw [size_madeCells]; exact hi
    simp [Array.getElem?_eq_getElem this]⟩

/-- A row that is being filled: the first k elements of xs lie in it. -/
def Filled {α : Type} (size : Nat) (cells : α → List Value) (w : World) (g : Nat) (t : TypeId) (m : Nat) (xs : List α) (k : Nat) : Prop :=
  ∃ f, w.rowIs g t m f ∧ ∀ i x, i < k → xs[i]? = some x → ∀ j u, (cells x)[j]? = some u → f (i * size + j) = u

/-- Cells stored one behind the other. -/
def putRow (w : World) (g o : Nat) : List Value → World
  | [] => w
  | v :: vs => putRow (w.setCell ⟨g, o, none⟩ v) g (o + 1) vs

theorem putRow_below {B g : Nat} {w0 : World} (hB : B ≤ g) : ∀ (vs : List Value) (w : World) (o : Nat), Below B w0 w → Below B w0 (putRow w g o vs)
  | [], _, _, h => h
  | v :: vs, w, o, h => putRow_below hB vs _ _ (h.setCell hB v)

theorem putRow_row {g : Nat} {t : TypeId} {m : Nat} : ∀ (vs : List Value) (w : World) (o : Nat) (f : Nat → Value), w.rowIs g t m f → (putRow w g o vs).rowIs g t m (fun j => if o ≤ j then (vs[j - o]?).getD (f j) else f j)
  | [], w, o, f, h => h.congr fun i _ => by simp
  | v :: vs, w, o, f, h => by
    have h1 := putRow_row vs _ (o + 1) _ (h.set o v)
    refine h1.congr fun i _ => ?_
    by_cases h2 : o + 1 ≤ i
    · have e : i - o = (i - (o + 1)) + 1 := by omega
      have e2 : i ≠ o := by omega
      simp [h2, e2, e, show o ≤ i by omega]
    · by_cases h3 : i = o
      · subst h3
        simp only [if_neg h2, if_pos, Nat.le_refl, Nat.sub_self, List.getElem?_cons_zero, Option.getD_some]
      · have : ¬ o ≤ i := by omega
        simp [h2, h3, this]

section
variable {α : Type} {size : Nat} {cells : α → List Value} {w w' : World} {g : Nat} {t : TypeId} {m : Nat} {xs : List α} {k : Nat}
theorem Filled.start (f : Nat → Value) (h : w.rowIs g t m f) : Filled size cells w g t m xs 0 := ⟨f, h, fun i x hi => absurd hi (by omega)⟩
theorem Filled.row (h : Filled size cells w g t m xs k) : ∃ f, w.rowIs g t m f := let ⟨f, hr, _⟩ := h; ⟨f, hr⟩
theorem Filled.lt (h : Filled size cells w g t m xs k) : g < w.heap.size := let ⟨_, hr, _⟩ := h; hr.lt
theorem Filled.block (h : Filled size cells w g t m xs k) (e : w'.heap[g]? = w.heap[g]?) : Filled size cells w' g t m xs k := let ⟨f, hr, hf⟩ := h; ⟨f, hr.of_block e, hf⟩
theorem Filled.below {B : Nat} (h : Filled size cells w g t m xs k) (hb : Below B w w') (hg : g < B) : Filled size cells w' g t m xs k := h.block (hb.block g hg)
theorem Filled.step {x : α} (h : Filled size cells w g t m xs k) (hx : xs[k]? = some x) (hlen : ∀ y, (cells y).length = size) : Filled size cells (putRow w g (k * size) (cells x)) g t m xs (k + 1) := by
  obtain ⟨f, hr, hf⟩ := h
  refine ⟨_, putRow_row (cells x) w (k * size) f hr, fun i y hi hy j u hu => ?_⟩
  have hj : j < size := by
    rw [← hlen y]
    exact (List.getElem?_eq_some_iff.1 hu).1
  rcases Nat.lt_or_ge i k with h1 | h1
  · have : ¬ k * size ≤ i * size + j := by
      have : (i + 1) * size ≤ k * size := Nat.mul_le_mul_right size h1
      rw [Nat.add_mul] at this
      omega
    simp only [if_neg this]
    exact hf i y h1 hy j u hu
  · obtain rfl : i = k := by omega
    rw [hx] at hy
    cases hy
    simp [hu]
theorem Filled.done {n : Nat} (h : Filled size cells w g t (n * size) xs n) (hn : xs.length = n) (hlen : ∀ y, (cells y).length = size) : SRow size cells w (some ⟨g, 0, none⟩) n xs := by
  obtain ⟨f, hr, hf⟩ := h
  refine SRow.of_row hr hn fun i x hx j u hu => ?_
  have hi : i < n := by
    rw [← hn]
    exact (List.getElem?_eq_some_iff.1 hx).1
  have hj : j < size := by
    rw [← hlen x]
    exact (List.getElem?_eq_some_iff.1 hu).1
  refine ⟨?_, hf i x hi hx j u hu⟩
  have : (i + 1) * size ≤ n * size := Nat.mul_le_mul_right size hi
  rw [Nat.add_mul] at this
  omega
end
theorem below_a1 (w : World) (a : Obj) : Below w.heap.size w (w.alloc a) := (Below.refl _ _).alloc (Nat.le_refl _) _
theorem below_a2 (w : World) (a b : Obj) : Below w.heap.size w ((w.alloc a).alloc b) := (below_a1 w a).alloc (by simp) _
theorem below_a3 (w : World) (a b c : Obj) : Below w.heap.size w (((w.alloc a).alloc b).alloc c) := (below_a2 w a b).alloc (by simp; omega) _
end Go.Proofs.YtceedmejmmoepaaDoor
