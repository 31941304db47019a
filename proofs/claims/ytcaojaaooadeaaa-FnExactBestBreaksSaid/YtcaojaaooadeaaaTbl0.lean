/- Tables: their widths, without a program. -/
import Derived.Test.YtcaojaaooadeaaaTabW
import Derived.Test.YtcaojaaooadeaaaTxtB
import Derived.Test.YtcaojaaooadeaaaSssD
namespace Go.Proofs.Ytcaojaaooadeaaa
open Go.RowKit Go.ChangeShapes Go.WideShapes Go.Deep
set_option linter.unusedVariables false
set_option linter.unusedSimpArgs false

def cellB (s : ByteArray) : Bool := decide ((s.size : Int) ≤ 30) && bytesIn 32 126 s
def colsN (rows : List (List ByteArray)) : Nat := (rows.head?.getD []).length
def rowSpecB (m : Nat) (r : List ByteArray) : Bool := decide (r.length = m) && inR (r.length : Int) 1 12 && r.all cellB
def rowB (m : Nat) (r : List ByteArray) : Bool := decide (r.length = m) && r.all cellB
def tableB (rows : List (List ByteArray)) : Bool := rows.all (rowSpecB (colsN rows)) && inR (rows.length : Int) 1 40
theorem table_impl (rows : List (List ByteArray)) : tableB rows = (inR (rows.length : Int) 1 40 && (inR (colsN rows : Int) 1 12 && rows.all (rowB (colsN rows)))) := by
  cases rows with
  | nil => rfl
  | cons r rs =>
    unfold tableB
    rw [Bool.and_comm]
    congr 1
    simp only [colsN, List.head?_cons, Option.getD_some]
    apply Bool.eq_iff_iff.2
    simp only [List.all_eq_true, Bool.and_eq_true]
    constructor
    · intro h
      have h0 := h r (by simp)
      simp only [rowSpecB, Bool.and_eq_true] at h0
      refine ⟨h0.1.2, fun x hx => ?_⟩
      have h1 := h x hx
      simp only [rowSpecB, rowB, Bool.and_eq_true] at h1 ⊢
      exact ⟨h1.1.1, h1.2⟩
    · intro h x hx
      have h1 := h.2 x hx
      simp only [rowSpecB, rowB, Bool.and_eq_true, decide_eq_true_eq] at h1 ⊢
      exact ⟨⟨h1.1, by rw [h1.1]; exact h.1⟩, h1.2⟩
theorem tableB_ok {rows : List (List ByteArray)} (h : tableB rows = true) : 1 ≤ rows.length ∧ rows.length ≤ 40 ∧ 1 ≤ colsN rows ∧ colsN rows ≤ 12 ∧ ∀ r ∈ rows, r.length = colsN rows ∧ ∀ s ∈ r, s.size ≤ 30 := by
  rw [table_impl] at h
  simp only [Bool.and_eq_true, inR_iff, List.all_eq_true, rowB, decide_eq_true_eq] at h
  refine ⟨by omega, by omega, by omega, by omega, fun r hr => ⟨(h.2.2 r hr).1, fun s hs => ?_⟩⟩
  have := (h.2.2 r hr).2 s hs
  simp only [cellB, Bool.and_eq_true, decide_eq_true_eq] at this
  omega
def szI (r : List ByteArray) (i : Nat) : Int := ((r.getD i ByteArray.empty).size : Int)
/-- The widths, a row more. -/
def wstep (acc : List Int) (r : List ByteArray) : List Int := List.zipWith (fun a (s : ByteArray) => max a (s.size : Int)) acc r
def widL (m : Nat) (rows : List (List ByteArray)) : List Int := rows.foldl wstep (List.replicate m 0)
def grL (rows : List (List ByteArray)) (i : Nat) (a : Int) : Int := rows.foldl (fun a r => max a (szI r i)) a
def colR (rows : List (List ByteArray)) : List Int × Int := if tableB rows = true then (widL (colsN rows) rows, 0) else ([], 1)
theorem wstep_len {acc : List Int} {r : List ByteArray} (h : r.length = acc.length) : (wstep acc r).length = acc.length := by simp [wstep, h]
theorem wstep_at {acc : List Int} {r : List ByteArray} {k : Nat} {a : Int} {s : ByteArray} (ha : acc[k]? = some a) (hs : r[k]? = some s) : (wstep acc r)[k]? = some (max a s.size) := by
  simp [wstep, List.getElem?_zipWith, ha, hs]
theorem widL_len {m : Nat} : ∀ {rows : List (List ByteArray)} {acc : List Int}, acc.length = m → (∀ r ∈ rows, r.length = m) → (rows.foldl wstep acc).length = m
  | [], acc, h, _ => h
  | r :: rs, acc, h, hr => by
    simp only [List.foldl_cons]
    exact widL_len (by rw [wstep_len (by rw [hr r (by simp), h]), h]) (fun x hx => hr x (by simp [hx]))
theorem wid_at {m : Nat} (i : Nat) (hi : i < m) : ∀ {rows : List (List ByteArray)} {acc : List Int}, acc.length = m → (∀ r ∈ rows, r.length = m) → ∀ a, acc[i]? = some a → (rows.foldl wstep acc)[i]? = some (grL rows i a)
  | [], acc, h, _, a, ha => ha
  | r :: rs, acc, h, hr, a, ha => by
    have h0 := hr r (by simp)
    have hs : r[i]? = some (r[i]'(by omega)) := List.getElem?_eq_getElem (by omega)
    have := wid_at i hi (rows := rs) (acc := wstep acc r) (by rw [wstep_len (by omega), h]) (fun x hx => hr x (by simp [hx])) _ (wstep_at ha hs)
    simp only [List.foldl_cons]
    rw [this]
    simp only [grL, List.foldl_cons]
    congr 2
    simp [szI, List.getD, hs]
theorem widL_eq {m : Nat} {rows : List (List ByteArray)} (hr : ∀ r ∈ rows, r.length = m) : widL m rows = (List.range m).map fun i => grL rows i 0 := by
  apply List.ext_getElem?
  intro i
  by_cases hi : i < m
  · rw [widL, wid_at i hi (by simp) hr 0 (by simp [hi])]
    simp [hi]
  · rw [List.getElem?_eq_none (by rw [widL, widL_len (by simp) hr]; omega), List.getElem?_eq_none (by simp; omega)]
theorem grL_snoc {rows : List (List ByteArray)} {k i : Nat} {r : List ByteArray} (h : rows[k]? = some r) (a : Int) : grL (rows.take (k + 1)) i a = max (grL (rows.take k) i a) (szI r i) := by
  rw [grL, take8 h, List.foldl_append]
  rfl
theorem grL_range : ∀ (rows : List (List ByteArray)) (i : Nat) (a : Int), (∀ r ∈ rows, ∀ s ∈ r, s.size ≤ 30) → 0 ≤ a → a ≤ 30 → 0 ≤ grL rows i a ∧ grL rows i a ≤ 30
  | [], i, a, _, h0, h1 => ⟨h0, h1⟩
  | r :: rs, i, a, h, h0, h1 => by
    have hz : 0 ≤ szI r i ∧ szI r i ≤ 30 := by
      unfold szI
      rw [List.getD]
      cases hs : r[i]? with
      | none =>
        have : ByteArray.empty.size = 0 := rfl
        simp only [Option.getD_none, this]
        omega
      | some s =>
        have := h r (by simp) s (List.mem_of_getElem? hs)
        simp
        omega
    have := grL_range rs i (max a (szI r i)) (fun x hx => h x (by simp [hx])) (by omega) (by omega)
    simpa [grL] using this
theorem colsN_at {rows : List (List ByteArray)} {r : List ByteArray} (h : rows[0]? = some r) : colsN rows = r.length := by
  cases rows with
  | nil => simp at h
  | cons a t => simp at h; subst h; rfl
theorem wset {A acc : List Int} {k : Nat} {v : Int} (hl : A.length = acc.length) (hv : A[k]? = some v) : (A.take k ++ acc.drop k).set k v = A.take (k + 1) ++ acc.drop (k + 1) := by
  have hi : k < A.length := (List.getElem?_eq_some_iff.1 hv).1
  have e : A[k] = v := (List.getElem?_eq_some_iff.1 hv).2
  rw [List.drop_eq_getElem_cons (by omega : k < acc.length), List.take_succ_eq_append_getElem hi, e]
  have hlen : (A.take k).length = k := by rw [List.length_take]; omega
  rw [List.set_append_right _ _ (by omega), hlen, Nat.sub_self, List.set_cons_zero, List.append_assoc]
  rfl
theorem wmid {A acc : List Int} {k : Nat} (hl : A.length = acc.length) (hk : k < acc.length) : (A.take k ++ acc.drop k)[k]? = acc[k]? := by
  rw [List.getElem?_append_right (by rw [List.length_take]; omega), List.length_take, List.getElem?_drop]
  congr 1
  omega
end Go.Proofs.Ytcaojaaooadeaaa
