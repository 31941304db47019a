/- The model's layouts: where a letter is, rows, and what is valid. -/
import Derived.Test.YticggclpaalhgaaDoorRdB
namespace Go.Proofs.YticggclpaalhgaaDoor
open Go.RowKit Go.ChangeMaps Go.MapKept
set_option linter.unusedVariables false
set_option linter.unusedSimpArgs false

def atI (o : Option (Nat × Nat)) : Int × Int := match o with | some p => ((p.1 : Int), (p.2 : Int)) | none => (-1, -1)
theorem at_next {x y : UInt8} {r k : Nat} {l : List UInt8} {K : Spots} (h : ¬ y = x) : look6 x (rowKeys r k (y :: l) ++ K) = look6 x (rowKeys r (k + 1) l ++ K) := by
  simp only [rowKeys, List.cons_append, look6]
  rw [if_neg (fun e => h e.symm)]
theorem at_here {x : UInt8} {r k : Nat} {l : List UInt8} {K : Spots} : look6 x (rowKeys r k (x :: l) ++ K) = some (r, k) := by
  simp [rowKeys, List.cons_append, look6]
theorem keys_drop {xs : List ByteArray} {r : Nat} {s : ByteArray} (h : xs[r]? = some s) : keysFrom r (xs.drop r) = rowKeys r 0 (s.data.toList.drop 0) ++ keysFrom (r + 1) (xs.drop (r + 1)) := by
  obtain ⟨h1, h2⟩ := List.getElem?_eq_some_iff.1 h
  rw [List.drop_eq_getElem_cons h1, h2]
  rfl
theorem ret_at {a b : Int} {o o' : Option (Nat × Nat)} (h : o = o') (h1 : (atI o').1 = a) (h2 : (atI o').2 = b) : Ending.returned (.tuple #[.int .i64 a, .int .i64 b]) = .returned (.tuple #[.int .i64 (atI o).1, .int .i64 (atI o).2]) := by rw [h, h1, h2]

theorem ext_one6 {s : ByteArray} {k : Nat} (hk : k < s.size) : s.extract k (k + 1) = ⟨#[s[k]'hk]⟩ := by
  apply ByteArray.ext
  rw [ByteArray.data_extract]
  apply Array.ext
  · simp only [Array.size_extract, List.size_toArray, List.length_cons, List.length_nil]
    have : s.size = s.data.size := rfl
    omega
  · intro i h1 h2
    simp only [List.size_toArray, List.length_cons, List.length_nil] at h2
    obtain rfl : i = 0 := by omega
    simp
    rfl
theorem isLet_byte (c : UInt8) : isLet ⟨#[c]⟩ = (decide (33 ≤ c.toNat) && decide (c.toNat ≤ 126)) := rfl
theorem keyByte_let (c : UInt8) : keyByte c = (isLet ⟨#[c]⟩ && !decide (c.toNat = 47)) := rfl
theorem all_stop {l : List UInt8} {p : UInt8 → Bool} {k : Nat} {c : UInt8} (h : l[k]? = some c) (hp : p c = false) : l.all p = false := by
  rw [List.all_eq_false]
  exact ⟨c, List.mem_of_getElem? h, by simp [hp]⟩
theorem all_end {s : ByteArray} {p : UInt8 → Bool} (h : ∀ k (hk : k < s.size), p (s[k]'hk) = true) : s.data.toList.all p = true := by
  rw [List.all_eq_true]
  intro c hc
  obtain ⟨k, hk, rfl⟩ := List.getElem_of_mem hc
  exact h k (by rw [← size_len]; exact hk)
end Go.Proofs.YticggclpaalhgaaDoor
