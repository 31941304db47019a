/- Slices of Act as lists: what the law's own helpers on them do, and how an argument is opened. -/
import Derived.Test.YtphhpmnigchooaaActD
import Derived.Test.YtphhpmnigchooaaRows0
import Derived.Test.YtphhpmnigchooaaOpen0
import Derived.Deep.RegionHeld3
namespace Go.Proofs.Ytphhpmnigchooaa
open Go.RowKit Go.ChangeShapes Go.WideShapes Go.Deep
set_option linter.unusedVariables false
set_option linter.unusedSimpArgs false

abbrev Acts (w : World) (A : Option Addr) (n : Nat) (ps : List ActD) : Prop := SRow 2 ActD.cells w A n ps

theorem act_at {w : World} {A : Option Addr} {n k : Nat} {ps : List ActD} (h : Acts w A n ps) (hk : k < n) :
    ∃ b off x, A = some ⟨b, off, none⟩ ∧ b < w.heap.size ∧ Hid (ps[k]? = some x) ∧ w.cell? ⟨b, off + k * 2, none⟩ = some (.int .i64 x.kind) ∧ w.cell? ⟨b, off + k * 2 + 1, none⟩ = some (.string x.letter) := by
  obtain ⟨b, off, x, e, hb, hx, hc⟩ := h.at_ hk
  exact ⟨b, off, x, e, hb, Lib.hid hx, hc 0 _ rfl, hc 1 _ rfl⟩

theorem Try.infoAct : (Try.prog.info? 57).map (fun i => (i.zero, i.size, i.bytes)) = some (some (.agg #[.int .i64 0, .string ⟨#[]⟩]), 2, 24) := by kernel_rfl

def eqActs : List ActD → List ActD → Bool
  | [], [] => true
  | a :: as_, b :: bs => a.eqB b && eqActs as_ bs
  | _, _ => false
theorem eqActs_refl : ∀ ps : List ActD, eqActs ps ps = true
  | [] => rfl
  | p :: ps => by simp [eqActs, ActD.eqB_refl p, eqActs_refl ps]
theorem eqActs_length : ∀ {ps qs : List ActD}, eqActs ps qs = true → ps.length = qs.length
  | [], [], _ => rfl
  | [], _ :: _, h => by cases h
  | _ :: _, [], h => by cases h
  | a :: ps, b :: qs, h => by
    simp only [eqActs, Bool.and_eq_true] at h
    rw [List.length_cons, List.length_cons, eqActs_length h.2]
theorem eqActs_step {ps qs : List ActD} {k : Nat} {x y : ActD} (hx : ps[k]? = some x) (hy : qs[k]? = some y) (h : x.eqB y = true) : eqActs (ps.drop k) (qs.drop k) = eqActs (ps.drop (k + 1)) (qs.drop (k + 1)) := by
  obtain ⟨h1, rfl⟩ := List.getElem?_eq_some_iff.1 hx
  obtain ⟨h2, rfl⟩ := List.getElem?_eq_some_iff.1 hy
  rw [List.drop_eq_getElem_cons h1, List.drop_eq_getElem_cons h2]
  simp [eqActs, h]
theorem eqActs_stop {ps qs : List ActD} {k : Nat} {x y : ActD} (hx : ps[k]? = some x) (hy : qs[k]? = some y) (h : x.eqB y = false) : eqActs (ps.drop k) (qs.drop k) = false := by
  obtain ⟨h1, rfl⟩ := List.getElem?_eq_some_iff.1 hx
  obtain ⟨h2, rfl⟩ := List.getElem?_eq_some_iff.1 hy
  rw [List.drop_eq_getElem_cons h1, List.drop_eq_getElem_cons h2]
  simp [eqActs, h]
theorem eqActs_end {ps qs : List ActD} {k : Nat} (hp : ps.length = k) (hq : qs.length = k) : eqActs (ps.drop k) (qs.drop k) = true := by
  rw [List.drop_of_length_le (by omega), List.drop_of_length_le (by omega)]
  rfl
theorem eqActs_len {ps qs : List ActD} (h : ¬ ps.length = qs.length) : eqActs ps qs = false := by
  rw [Bool.eq_false_iff]
  exact fun he => h (eqActs_length he)

theorem keptAct {wr wx w1 : World} {b b' o0 o1 o2 o3 : Nat} {v0 v1 v2 v3 : Value} (h : Below wr.heap.size wr wx ∧ wx.cell? ⟨b, o0, none⟩ = some v0 ∧ wx.cell? ⟨b, o1, none⟩ = some v1 ∧ wx.cell? ⟨b', o2, none⟩ = some v2 ∧ wx.cell? ⟨b', o3, none⟩ = some v3)
    (hb : b < wr.heap.size) (hb' : b' < wr.heap.size) (h1 : Below wx.heap.size wx w1) :
    Below wr.heap.size wr w1 ∧ w1.cell? ⟨b, o0, none⟩ = some v0 ∧ w1.cell? ⟨b, o1, none⟩ = some v1 ∧ w1.cell? ⟨b', o2, none⟩ = some v2 ∧ w1.cell? ⟨b', o3, none⟩ = some v3 := by
  obtain ⟨hB, c0, c1, c2, c3⟩ := h
  have hz := hB.size
  exact ⟨hB.trans (h1.mono hz), (h1.cell (p := ⟨b, o0, none⟩) (by show b < _; omega)).trans c0, (h1.cell (p := ⟨b, o1, none⟩) (by show b < _; omega)).trans c1, (h1.cell (p := ⟨b', o2, none⟩) (by show b' < _; omega)).trans c2, (h1.cell (p := ⟨b', o3, none⟩) (by show b' < _; omega)).trans c3⟩

/-- What szS hands back: less than nothing, or all is small. -/
def szActOut (l : Int) (n : Nat) (ps : List ActD) (w : World) (e : Ending) (w' : World) : Prop :=
  ∃ v : Int, e = .returned (.int .i64 v) ∧ -1 ≤ v ∧ v ≤ l ∧ (0 ≤ v → (n : Int) ≤ l ∧ ∀ x ∈ ps, x.small) ∧ Below w.heap.size w w'
end Go.Proofs.Ytphhpmnigchooaa
