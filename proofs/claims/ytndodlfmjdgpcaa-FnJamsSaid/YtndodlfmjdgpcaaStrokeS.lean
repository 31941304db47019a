/- Slices of Stroke as lists: what the law's own helpers on them do, and how an argument is opened. -/
import Derived.Test.YtndodlfmjdgpcaaStrokeD
import Derived.Test.YtndodlfmjdgpcaaRows0
import Derived.Test.YtndodlfmjdgpcaaOpen0
import Derived.Deep.RegionHeld3
namespace Go.Proofs.Ytndodlfmjdgpcaa
open Go.RowKit Go.ChangeShapes Go.WideShapes Go.Deep
set_option linter.unusedVariables false
set_option linter.unusedSimpArgs false

abbrev Strokes (w : World) (A : Option Addr) (n : Nat) (ps : List StrokeD) : Prop := SRow 2 StrokeD.cells w A n ps

theorem stroke_at {w : World} {A : Option Addr} {n k : Nat} {ps : List StrokeD} (h : Strokes w A n ps) (hk : k < n) :
    ∃ b off x, A = some ⟨b, off, none⟩ ∧ b < w.heap.size ∧ Hid (ps[k]? = some x) ∧ w.cell? ⟨b, off + k * 2, none⟩ = some (.int .i64 x.bar) ∧ w.cell? ⟨b, off + k * 2 + 1, none⟩ = some (.int .i64 x.tick) := by
  obtain ⟨b, off, x, e, hb, hx, hc⟩ := h.at_ hk
  exact ⟨b, off, x, e, hb, Lib.hid hx, hc 0 _ rfl, hc 1 _ rfl⟩

theorem Try.infoStroke : (Try.prog.info? 39).map (fun i => (i.zero, i.size, i.bytes)) = some (some (.agg #[.int .i64 0, .int .i64 0]), 2, 16) := by kernel_rfl

def eqStrokes : List StrokeD → List StrokeD → Bool
  | [], [] => true
  | a :: as_, b :: bs => a.eqB b && eqStrokes as_ bs
  | _, _ => false
theorem eqStrokes_refl : ∀ ps : List StrokeD, eqStrokes ps ps = true
  | [] => rfl
  | p :: ps => by simp [eqStrokes, StrokeD.eqB_refl p, eqStrokes_refl ps]
theorem eqStrokes_length : ∀ {ps qs : List StrokeD}, eqStrokes ps qs = true → ps.length = qs.length
  | [], [], _ => rfl
  | [], _ :: _, h => by cases h
  | _ :: _, [], h => by cases h
  | a :: ps, b :: qs, h => by
    simp only [eqStrokes, Bool.and_eq_true] at h
    rw [List.length_cons, List.length_cons, eqStrokes_length h.2]
theorem eqStrokes_step {ps qs : List StrokeD} {k : Nat} {x y : StrokeD} (hx : ps[k]? = some x) (hy : qs[k]? = some y) (h : x.eqB y = true) : eqStrokes (ps.drop k) (qs.drop k) = eqStrokes (ps.drop (k + 1)) (qs.drop (k + 1)) := by
  obtain ⟨h1, rfl⟩ := List.getElem?_eq_some_iff.1 hx
  obtain ⟨h2, rfl⟩ := List.getElem?_eq_some_iff.1 hy
  rw [List.drop_eq_getElem_cons h1, List.drop_eq_getElem_cons h2]
  simp [eqStrokes, h]
theorem eqStrokes_stop {ps qs : List StrokeD} {k : Nat} {x y : StrokeD} (hx : ps[k]? = some x) (hy : qs[k]? = some y) (h : x.eqB y = false) : eqStrokes (ps.drop k) (qs.drop k) = false := by
  obtain ⟨h1, rfl⟩ := List.getElem?_eq_some_iff.1 hx
  obtain ⟨h2, rfl⟩ := List.getElem?_eq_some_iff.1 hy
  rw [List.drop_eq_getElem_cons h1, List.drop_eq_getElem_cons h2]
  simp [eqStrokes, h]
theorem eqStrokes_end {ps qs : List StrokeD} {k : Nat} (hp : ps.length = k) (hq : qs.length = k) : eqStrokes (ps.drop k) (qs.drop k) = true := by
  rw [List.drop_of_length_le (by omega), List.drop_of_length_le (by omega)]
  rfl
theorem eqStrokes_len {ps qs : List StrokeD} (h : ¬ ps.length = qs.length) : eqStrokes ps qs = false := by
  rw [Bool.eq_false_iff]
  exact fun he => h (eqStrokes_length he)

theorem keptStroke {wr wx w1 : World} {b b' o0 o1 o2 o3 : Nat} {v0 v1 v2 v3 : Value} (h : Below wr.heap.size wr wx ∧ wx.cell? ⟨b, o0, none⟩ = some v0 ∧ wx.cell? ⟨b, o1, none⟩ = some v1 ∧ wx.cell? ⟨b', o2, none⟩ = some v2 ∧ wx.cell? ⟨b', o3, none⟩ = some v3)
    (hb : b < wr.heap.size) (hb' : b' < wr.heap.size) (h1 : Below wx.heap.size wx w1) :
    Below wr.heap.size wr w1 ∧ w1.cell? ⟨b, o0, none⟩ = some v0 ∧ w1.cell? ⟨b, o1, none⟩ = some v1 ∧ w1.cell? ⟨b', o2, none⟩ = some v2 ∧ w1.cell? ⟨b', o3, none⟩ = some v3 := by
  obtain ⟨hB, c0, c1, c2, c3⟩ := h
  have hz := hB.size
  exact ⟨hB.trans (h1.mono hz), (h1.cell (p := ⟨b, o0, none⟩) (by show b < _; omega)).trans c0, (h1.cell (p := ⟨b, o1, none⟩) (by show b < _; omega)).trans c1, (h1.cell (p := ⟨b', o2, none⟩) (by show b' < _; omega)).trans c2, (h1.cell (p := ⟨b', o3, none⟩) (by show b' < _; omega)).trans c3⟩


end Go.Proofs.Ytndodlfmjdgpcaa
