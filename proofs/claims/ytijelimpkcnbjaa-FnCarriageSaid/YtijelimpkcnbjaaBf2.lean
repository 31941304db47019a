/- The program's search in breadth. -/
import Derived.Test.YtijelimpkcnbjaaBf1
import Derived.Test.YtijelimpkcnbjaaMid
import Derived.Deep.RegionWith
namespace Go.Proofs.Ytijelimpkcnbjaa
open Go.RowKit Go.ChangeShapes Go.WideShapes Go.Deep
set_option linter.unusedVariables false
set_option linter.unusedSimpArgs false

def bytK (p : List Nat) : ByteArray := ⟨(p.map mvB).toArray⟩
def arrC (x : Arr) : List Value := [.int .i64 (x.1 : Int), .string (bytK x.2)]
theorem bytK_size (p : List Nat) : (bytK p).size = p.length := by simp [bytK, ByteArray.size]
theorem bytK_snoc (p : List Nat) (k : Nat) : bytK p ++ ⟨#[mvB k]⟩ = bytK (p ++ [k]) := by
  apply ByteArray.ext
  simp [bytK]
theorem arrC_len : ∀ L : List Arr, (L.flatMap arrC).length = L.length * 2
  | [] => rfl
  | x :: r => by simp [arrC, arrC_len r]; omega
/-- What the search has in memory: the way, the columns that are reached, the queue. -/
structure PlanM (N s t : Nat) (qv : Value) (Q : List Arr) (R : List Bool) (w : World) : Prop where
  box0 : w.cell? ⟨N, 0, none⟩ = some (.int .i64 (s : Int))
  box1 : w.cell? ⟨N, 1, none⟩ = some (.int .i64 (t : Int))
  reach : ∀ (j : Nat) b, R[j]? = some b → w.cell? ⟨N + 1, j, none⟩ = some (.bool b)
  rfz : ∀ j, w.frozen? ⟨N + 1, j, none⟩ = false
  rlt : N + 1 < w.heap.size
  queue : Mid w (N + 2) 2 qv Q.length (Q.flatMap arrC)
theorem PlanM.below {N s t : Nat} {qv : Value} {Q : List Arr} {R : List Bool} {w w' : World} (h : PlanM N s t qv Q R w) (hb : Below w.heap.size w w') : PlanM N s t qv Q R w' :=
  ⟨cell_step h.box0 hb, cell_step h.box1 hb, fun j b hj => cell_step (h.reach j b hj) hb, fun j => (hb.frozen (p := ⟨N + 1, j, none⟩) h.rlt).trans (h.rfz j), Nat.lt_of_lt_of_le h.rlt hb.size, h.queue.below hb⟩
theorem PlanM.mark {N s t n : Nat} {qv : Value} {Q : List Arr} {R : List Bool} {w : World} (h : PlanM N s t qv Q R w) (hn : n < R.length) : PlanM N s t qv Q (R.set n true) (w.setCell ⟨N + 1, n, none⟩ (.bool true)) := by
  have hne : ∀ o, (⟨N + 1, n, none⟩ : Addr) ≠ ⟨N, o, none⟩ := fun o e => by
    have : N + 1 = N := congrArg Addr.block e
    omega
  have hc := h.reach n R[n] (by simp [hn])
  refine ⟨(World.cell?_setCell_other _ _ _ _ (hne 0)).trans h.box0, (World.cell?_setCell_other _ _ _ _ (hne 1)).trans h.box1, fun j b hj => ?_, fun j => by rw [World.frozen?_setCell]; exact h.rfz j, by simpa using h.rlt, h.queue.kept (grown_set (g := N + 1)) (fun k hk e => ?_)⟩
  · by_cases e : n = j
    · subst e
      rw [List.getElem?_set_self hn] at hj
      cases hj
      exact World.cell?_setCell_same' _ _ _ (by rw [hc]; rfl)
    · rw [List.getElem?_set_ne e] at hj
      rw [World.cell?_setCell_other _ _ _ _ (fun e2 => e (congrArg Addr.off e2))]
      exact h.reach j b hj
  · cases hk
    have := (h.queue.lt _ e).1
    omega
theorem PlanM.queue' {N s t : Nat} {qv qv' : Value} {Q Q' : List Arr} {R : List Bool} {w w' : World} (h : PlanM N s t qv Q R w) (hg : w.grownBy w' qv.ownBlock) (hq : Mid w' (N + 2) 2 qv' Q'.length (Q'.flatMap arrC)) : PlanM N s t qv' Q' R w' := by
  have hk : ∀ b o v, b < N + 2 → w.cell? ⟨b, o, none⟩ = some v → w'.cell? ⟨b, o, none⟩ = some v := fun b o v hb hc => hg.cell hc (fun e => by have := (h.queue.lt b e.symm).1; omega)
  refine ⟨hk _ _ _ (by omega) h.box0, hk _ _ _ (by omega) h.box1, fun j b hj => hk _ _ _ (by omega) (h.reach j b hj), fun j => ?_, Nat.lt_of_lt_of_le h.rlt hg.size, hq⟩
  have e0 : w'.heap[N + 1]? = w.heap[N + 1]? := hg.block _ h.rlt (fun e => by have := (h.queue.lt _ e.symm).1; omega)
  rw [World.frozen?_of_block (a := ⟨N + 1, j, none⟩) e0]
  exact h.rfz j
/-- The front of the queue. -/
theorem PlanM.front {N s t v : Nat} {p : List Nat} {qv : Value} {Q : List Arr} {R : List Bool} {w : World} (h : PlanM N s t qv ((v, p) :: Q) R w) :
    ∃ g off cap, qv = .slice (some ⟨g, off, none⟩) (Q.length + 1) cap ∧ g < w.heap.size ∧ Q.length + 1 ≤ cap ∧ w.cell? ⟨g, off, none⟩ = some (.int .i64 (v : Int)) ∧ w.cell? ⟨g, off + 1, none⟩ = some (.string (bytK p)) := by
  obtain ⟨g, off, cap, h1, h2, h3, h4, h5⟩ := h.queue.form
  exact ⟨g, off, cap, h1, h3, h4, h5 0 _ rfl, h5 1 _ rfl⟩
theorem PlanM.pop {N s t v g off cap : Nat} {p : List Nat} {Q : List Arr} {R : List Bool} {w : World} (h : PlanM N s t (.slice (some ⟨g, off, none⟩) (Q.length + 1) cap) ((v, p) :: Q) R w) :
    PlanM N s t (.slice (some ⟨g, if cap = 1 then off else off + 2, none⟩) Q.length (cap - 1)) Q R w := by
  refine ⟨h.box0, h.box1, h.reach, h.rfz, h.rlt, ?_⟩
  have hq := h.queue
  rw [List.length_cons, List.flatMap_cons] at hq
  by_cases hc : cap = 1
  · subst hc
    obtain ⟨g', off', cap', h1, h2, h3, h4, _⟩ := hq.form
    cases h1
    have e : Q = [] := List.eq_nil_of_length_eq_zero (by omega)
    subst e
    exact hq.tail1
  · rw [if_neg hc]
    exact hq.tail rfl hc
end Go.Proofs.Ytijelimpkcnbjaa
