/- Numbers aligned at one column: without a program. -/
import Derived.Test.YtcaojaaooadeaaaNum8
namespace Go.Proofs.Ytcaojaaooadeaaa
open Go.RowKit Go.ChangeShapes Go.WideShapes Go.Deep
set_option linter.unusedVariables false
set_option linter.unusedSimpArgs false

def blanksB (n : Nat) : ByteArray := ⟨(List.replicate n 32).toArray⟩
def pnI (s : ByteArray) : Int := (pn s.data.toList : Int)
def numB8 (s : ByteArray) : Bool := numL s.data.toList
def shortB (s : ByteArray) : Bool := decide (s.size ≤ 30)
def mostP (l : List ByteArray) : Int := l.foldl (fun a s => max a (pnI s)) 0
def padS (m : Int) (s : ByteArray) : ByteArray := blanksB (m - pnI s).toNat ++ s
def alR (l : List ByteArray) : List ByteArray × Int :=
  if (l.all shortB && decide (l.length ≤ 40)) = true then (if l.all numB8 = true then (l.map (padS (mostP l)), 0) else ([], 7)) else ([], 2)
theorem mostP_snoc {l : List ByteArray} {k : Nat} {s : ByteArray} (h : l[k]? = some s) : mostP (l.take (k + 1)) = max (mostP (l.take k)) (pnI s) := by
  rw [mostP, take8 h, List.foldl_append]
  rfl
theorem foldP_ge : ∀ (l : List ByteArray) (a : Int), a ≤ l.foldl (fun a s => max a (pnI s)) a ∧ ∀ s ∈ l, pnI s ≤ l.foldl (fun a s => max a (pnI s)) a
  | [], a => ⟨Int.le_refl _, fun s hs => by cases hs⟩
  | x :: r, a => by
    have ih := foldP_ge r (max a (pnI x))
    simp only [List.foldl_cons]
    refine ⟨by omega, fun s hs => ?_⟩
    rcases List.mem_cons.1 hs with rfl | hs
    · omega
    · exact ih.2 s hs
theorem foldP_le (M : Int) : ∀ (l : List ByteArray) (a : Int), a ≤ M → (∀ s ∈ l, pnI s ≤ M) → l.foldl (fun a s => max a (pnI s)) a ≤ M
  | [], a, h, _ => h
  | x :: r, a, h, hs => by
    simp only [List.foldl_cons]
    exact foldP_le M r _ (by have := hs x (by simp); omega) (fun s h => hs s (by simp [h]))
theorem pnI_range {s : ByteArray} (h : s.size ≤ 30) : 0 ≤ pnI s ∧ pnI s ≤ 30 := by
  have := pn_le s.data.toList
  rw [size_len8] at this
  unfold pnI
  omega
theorem mostP_range {l : List ByteArray} (h : ∀ s ∈ l, s.size ≤ 30) : 0 ≤ mostP l ∧ mostP l ≤ 30 ∧ ∀ s ∈ l, pnI s ≤ mostP l :=
  ⟨(foldP_ge l 0).1, foldP_le 30 l 0 (by omega) (fun s hs => (pnI_range (h s hs)).2), (foldP_ge l 0).2⟩
theorem all_short {l : List ByteArray} (h : l.all shortB = true) : ∀ s ∈ l, s.size ≤ 30 := fun s hs => by
  have := List.all_eq_true.1 h s hs
  simpa [shortB] using this
theorem alR_2 {l : List ByteArray} (h : l.all shortB = false ∨ ¬ l.length ≤ 40) : alR l = ([], 2) := by
  unfold alR
  rw [if_neg]
  rcases h with h | h <;> simp [h]
theorem alR_7 {l : List ByteArray} (h1 : l.all shortB = true) (h2 : l.length ≤ 40) (h3 : l.all numB8 = false) : alR l = ([], 7) := by simp [alR, h1, h2, h3]
theorem alR_0 {l : List ByteArray} (h1 : l.all shortB = true) (h2 : l.length ≤ 40) (h3 : l.all numB8 = true) : alR l = (l.map (padS (mostP l)), 0) := by simp [alR, h1, h2, h3]
theorem blanksB_next (n : Nat) : (blanksB (n + 1)).data.toList = (blanksB n).data.toList ++ [32] := by
  simp [blanksB, List.replicate_succ']
theorem owns_keep8 {w w' : World} {base : Nat} {e : TypeId} {size n : Nat} {v : Value} {xs : List Value} (h : w.ownsRow base e size v n xs) (hb : Below w.heap.size w w') : w'.ownsRow base e size v n xs :=
  h.kept (grown_below hb none) (by cases v.ownBlock <;> simp)
end Go.Proofs.Ytcaojaaooadeaaa
