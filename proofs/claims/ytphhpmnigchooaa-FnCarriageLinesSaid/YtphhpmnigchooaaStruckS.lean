/- Slices of Struck as lists: what the law's own helpers on them do, and how an argument is opened. -/
import Derived.Test.YtphhpmnigchooaaStruckD
import Derived.Test.YtphhpmnigchooaaRows0
import Derived.Test.YtphhpmnigchooaaOpen0
import Derived.Deep.RegionHeld3
namespace Go.Proofs.Ytphhpmnigchooaa
open Go.RowKit Go.ChangeShapes Go.WideShapes Go.Deep
set_option linter.unusedVariables false
set_option linter.unusedSimpArgs false

abbrev Strucks (w : World) (A : Option Addr) (n : Nat) (ps : List StruckD) : Prop := SRow 2 StruckD.cells w A n ps

theorem struck_at {w : World} {A : Option Addr} {n k : Nat} {ps : List StruckD} (h : Strucks w A n ps) (hk : k < n) :
    ∃ b off x, A = some ⟨b, off, none⟩ ∧ b < w.heap.size ∧ Hid (ps[k]? = some x) ∧ w.cell? ⟨b, off + k * 2, none⟩ = some (.int .i64 x.place) ∧ w.cell? ⟨b, off + k * 2 + 1, none⟩ = some (.string x.letter) := by
  obtain ⟨b, off, x, e, hb, hx, hc⟩ := h.at_ hk
  exact ⟨b, off, x, e, hb, Lib.hid hx, hc 0 _ rfl, hc 1 _ rfl⟩

theorem Try.infoStruck : (Try.prog.info? 41).map (fun i => (i.zero, i.size, i.bytes)) = some (some (.agg #[.int .i64 0, .string ⟨#[]⟩]), 2, 24) := by kernel_rfl

def eqStrucks : List StruckD → List StruckD → Bool
  | [], [] => true
  | a :: as_, b :: bs => a.eqB b && eqStrucks as_ bs
  | _, _ => false
theorem eqStrucks_refl : ∀ ps : List StruckD, eqStrucks ps ps = true
  | [] => rfl
  | p :: ps => by simp [eqStrucks, StruckD.eqB_refl p, eqStrucks_refl ps]
theorem eqStrucks_length : ∀ {ps qs : List StruckD}, eqStrucks ps qs = true → ps.length = qs.length
  | [], [], _ => rfl
  | [], _ :: _, h => by cases h
  | _ :: _, [], h => by cases h
  | a :: ps, b :: qs, h => by
    simp only [eqStrucks, Bool.and_eq_true] at h
    rw [List.length_cons, List.length_cons, eqStrucks_length h.2]
theorem eqStrucks_step {ps qs : List StruckD} {k : Nat} {x y : StruckD} (hx : ps[k]? = some x) (hy : qs[k]? = some y) (h : x.eqB y = true) : eqStrucks (ps.drop k) (qs.drop k) = eqStrucks (ps.drop (k + 1)) (qs.drop (k + 1)) := by
  obtain ⟨h1, rfl⟩ := List.getElem?_eq_some_iff.1 hx
  obtain ⟨h2, rfl⟩ := List.getElem?_eq_some_iff.1 hy
  rw [List.drop_eq_getElem_cons h1, List.drop_eq_getElem_cons h2]
  simp [eqStrucks, h]
theorem eqStrucks_stop {ps qs : List StruckD} {k : Nat} {x y : StruckD} (hx : ps[k]? = some x) (hy : qs[k]? = some y) (h : x.eqB y = false) : eqStrucks (ps.drop k) (qs.drop k) = false := by
  obtain ⟨h1, rfl⟩ := List.getElem?_eq_some_iff.1 hx
  obtain ⟨h2, rfl⟩ := List.getElem?_eq_some_iff.1 hy
  rw [List.drop_eq_getElem_cons h1, List.drop_eq_getElem_cons h2]
  simp [eqStrucks, h]
theorem eqStrucks_end {ps qs : List StruckD} {k : Nat} (hp : ps.length = k) (hq : qs.length = k) : eqStrucks (ps.drop k) (qs.drop k) = true := by
  rw [List.drop_of_length_le (by omega), List.drop_of_length_le (by omega)]
  rfl
theorem eqStrucks_len {ps qs : List StruckD} (h : ¬ ps.length = qs.length) : eqStrucks ps qs = false := by
  rw [Bool.eq_false_iff]
  exact fun he => h (eqStrucks_length he)

theorem keptStruck {wr wx w1 : World} {b b' o0 o1 o2 o3 : Nat} {v0 v1 v2 v3 : Value} (h : Below wr.heap.size wr wx ∧ wx.cell? ⟨b, o0, none⟩ = some v0 ∧ wx.cell? ⟨b, o1, none⟩ = some v1 ∧ wx.cell? ⟨b', o2, none⟩ = some v2 ∧ wx.cell? ⟨b', o3, none⟩ = some v3)
    (hb : b < wr.heap.size) (hb' : b' < wr.heap.size) (h1 : Below wx.heap.size wx w1) :
    Below wr.heap.size wr w1 ∧ w1.cell? ⟨b, o0, none⟩ = some v0 ∧ w1.cell? ⟨b, o1, none⟩ = some v1 ∧ w1.cell? ⟨b', o2, none⟩ = some v2 ∧ w1.cell? ⟨b', o3, none⟩ = some v3 := by
  obtain ⟨hB, c0, c1, c2, c3⟩ := h
  have hz := hB.size
  exact ⟨hB.trans (h1.mono hz), (h1.cell (p := ⟨b, o0, none⟩) (by show b < _; omega)).trans c0, (h1.cell (p := ⟨b, o1, none⟩) (by show b < _; omega)).trans c1, (h1.cell (p := ⟨b', o2, none⟩) (by show b' < _; omega)).trans c2, (h1.cell (p := ⟨b', o3, none⟩) (by show b' < _; omega)).trans c3⟩

/-- What szS hands back: less than nothing, or all is small. -/
def szStruckOut (l : Int) (n : Nat) (ps : List StruckD) (w : World) (e : Ending) (w' : World) : Prop :=
  ∃ v : Int, e = .returned (.int .i64 v) ∧ -1 ≤ v ∧ v ≤ l ∧ (0 ≤ v → (n : Int) ≤ l ∧ ∀ x ∈ ps, x.small) ∧ Below w.heap.size w w'
end Go.Proofs.Ytphhpmnigchooaa
