/- Numbers as they are written: the program's methods. -/
import Derived.Test.YtcaojaaooadeaaaNum8
import Derived.Test.YtcaojaaooadeaaaTxtB
import Derived.Test.YtcaojaaooadeaaaShelf
namespace Go.Proofs.Ytcaojaaooadeaaa
open Go.RowKit Go.ChangeShapes Go.WideShapes Go.Deep
set_option linter.unusedVariables false
set_option linter.unusedSimpArgs false

theorem isEmpty8i (s : ByteArray) (h : 0 < s.size) : s.toList.isEmpty = false := by
  rw [ByteArray.toList_eq]
  cases hx : s.data.toList with
  | nil => have : s.data.toList.length = s.size := rfl; rw [hx] at this; simp at this; omega
  | cons a r => rfl
theorem nil8i (s : ByteArray) (h : 0 < s.size) : ¬ s.toList = [] := by
  have := isEmpty8i s h
  intro e
  rw [e] at this
  cases this
theorem size_zero8i (s : ByteArray) (h : s.size = 0) : s = ByteArray.empty := by
  apply ByteArray.ext
  apply Array.toList_inj.1
  have : s.data.toList.length = 0 := h
  rw [List.length_eq_zero_iff.1 this]
  rfl
theorem trim45 (l : List UInt8) : Lib.trimPrefix l [45] = unm l := by
  cases l with
  | nil => rfl
  | cons c r =>
    by_cases h : c = 45
    · subst h
      simp [unm, Lib.trimPrefix, Lib.hasPrefix]
    · have h2 : ¬ 45 = c := fun e => h e.symm
      have h3 : ¬ c.toNat = 45 := fun e => h (UInt8.toNat_inj.1 (by simpa using e))
      simp [unm, Lib.trimPrefix, Lib.hasPrefix, h2, h3]
theorem decR_2ai {s : ByteArray} {c : Int} (h : inR c 0 119 = false) : decR s c = (0, 2) := by simp [decR, h]
theorem decR_2bi {s : ByteArray} {c : Int} (h : ¬ s.size ≤ 30) : decR s c = (0, 2) := by simp [decR, h]
theorem decR_oki {s : ByteArray} {c : Int} (h : inR c 0 119 = true) (h2 : s.size ≤ 30) : decR s c = if numL s.data.toList = true then (if c < (pn s.data.toList : Int) then (0, 5) else (c - pn s.data.toList, 0)) else (0, 7) := by simp [decR, h, h2]
end Go.Proofs.Ytcaojaaooadeaaa
