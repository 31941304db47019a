/- Parts of a text between bytes of one value: the model's function. -/
import Derived.Test.YtcaojaaooadeaaaOwn8
namespace Go.Proofs.Ytcaojaaooadeaaa
open Go.RowKit Go.ChangeShapes Go.WideShapes Go.Deep
set_option linter.unusedVariables false
set_option linter.unusedSimpArgs false

theorem size_len8 (s : ByteArray) : s.data.toList.length = s.size := rfl
theorem bytes_at8 (s : ByteArray) {k : Nat} (h : k < s.size) : s.data.toList[k]? = some (s[k]'h) := by
  rw [List.getElem?_eq_getElem (by simpa using h)]
  rfl
theorem bytes_drop8 (s : ByteArray) {k : Nat} (h : k < s.size) : s.data.toList.drop k = (s[k]'h) :: s.data.toList.drop (k + 1) := by
  rw [List.drop_eq_getElem_cons (by simpa using h)]
  rfl
/-- The parts between blanks, as places: from 'pos' on, f bytes further, the part begun at 'a'. -/
def spB8 (d : Nat) (s : ByteArray) : Nat → Nat → Nat → List (Nat × Nat)
  | 0, pos, a => [(a, pos)]
  | f + 1, pos, a => if h : pos < s.size then (if (s[pos]'h).toNat = d then (a, pos) :: spB8 d s f (pos + 1) (pos + 1) else spB8 d s f (pos + 1) a) else [(a, pos)]
def ext8 (s : ByteArray) (x : Nat × Nat) : ByteArray := s.extract x.1 x.2
def split8 (d : Nat) (s : ByteArray) : List ByteArray := (spB8 d s s.size 0 0).map (ext8 s)
theorem sp8_blank {d : Nat} {s : ByteArray} {k a : Nat} (hk : k < s.size) (h : (s[k]'hk).toNat = d) : spB8 d s (s.size - k) k a = (a, k) :: spB8 d s (s.size - (k + 1)) (k + 1) (k + 1) := by
  rw [show s.size - k = (s.size - (k + 1)) + 1 by omega, spB8, dif_pos hk, if_pos h]
theorem sp8_more {d : Nat} {s : ByteArray} {k a : Nat} (hk : k < s.size) (h : ¬ (s[k]'hk).toNat = d) : spB8 d s (s.size - k) k a = spB8 d s (s.size - (k + 1)) (k + 1) a := by
  rw [show s.size - k = (s.size - (k + 1)) + 1 by omega, spB8, dif_pos hk, if_neg h]
theorem sp8_end {d : Nat} {s : ByteArray} {a : Nat} : spB8 d s (s.size - s.size) s.size a = [(a, s.size)] := by
  rw [Nat.sub_self, spB8]

def spl8 (d : Nat) : List UInt8 → List (List UInt8)
  | [] => [[]]
  | c :: l => if c.toNat = d then [] :: spl8 d l else match spl8 d l with
    | [] => [[c]]
    | h :: t => (c :: h) :: t
def consHead8 (p : List UInt8) : List (List UInt8) → List (List UInt8)
  | [] => [p]
  | h :: t => (p ++ h) :: t
theorem spl8_ne (d : Nat) : ∀ l, spl8 d l ≠ []
  | [] => by simp [spl8]
  | c :: l => by
    unfold spl8
    split
    · simp
    · split <;> simp
theorem spl8_more {d : Nat} {c : UInt8} {l : List UInt8} (h : ¬ c.toNat = d) : spl8 d (c :: l) = consHead8 [c] (spl8 d l) := by
  simp only [spl8]
  rw [if_neg h]
  cases spl8 d l <;> rfl
theorem spl8_dot {d : Nat} {c : UInt8} {l : List UInt8} (h : c.toNat = d) : spl8 d (c :: l) = [] :: spl8 d l := by
  simp only [spl8]
  rw [if_pos h]
theorem consHead8_nil {L : List (List UInt8)} (h : L ≠ []) : consHead8 [] L = L := by
  cases L with
  | nil => exact absurd rfl h
  | cons a t => rfl
theorem consHead8_app (p q : List UInt8) (L : List (List UInt8)) : consHead8 p (consHead8 q L) = consHead8 (p ++ q) L := by cases L <;> simp [consHead8]
theorem ext8_data (s : ByteArray) (a k : Nat) (h : a ≤ k) (hk : k ≤ s.size) : (s.extract a k).data.toList = (s.data.toList.take k).drop a := by
  rw [ByteArray.data_extract, Array.toList_extract]
  simp only [List.extract]
  rw [List.drop_take]
theorem spB8_spl (d : Nat) (s : ByteArray) : ∀ (f k a : Nat), f = s.size - k → k ≤ s.size → a ≤ k → ((spB8 d s f k a).map (ext8 s)).map (·.data.toList) = consHead8 ((s.data.toList.take k).drop a) (spl8 d (s.data.toList.drop k))
  | 0, k, a, hf, hk, ha => by
    obtain rfl : k = s.size := by omega
    have hd : s.data.toList.drop s.size = [] := List.drop_of_length_le (by rw [size_len8]; exact Nat.le_refl _)
    rw [hd]
    simp only [spB8, spl8, consHead8, ext8, List.map_cons, List.map_nil, List.append_nil]
    rw [ext8_data s a s.size ha hk]
  | f + 1, k, a, hf, hk, ha => by
    have hlt : k < s.size := by omega
    rw [bytes_drop8 s hlt]
    by_cases hb : (s[k]'hlt).toNat = d
    · have h1 : spB8 d s (f + 1) k a = (a, k) :: spB8 d s f (k + 1) (k + 1) := by
        simp only [spB8]
        rw [dif_pos hlt, if_pos hb]
      rw [h1, spl8_dot hb, List.map_cons, List.map_cons, spB8_spl d s f (k + 1) (k + 1) (by omega) (by omega) (Nat.le_refl _)]
      have h2 : (s.data.toList.take (k + 1)).drop (k + 1) = [] := List.drop_of_length_le (by rw [List.length_take]; omega)
      rw [h2, consHead8_nil (spl8_ne _ _)]
      simp only [consHead8, ext8, List.append_nil]
      rw [ext8_data s a k ha (by omega)]
    · have h1 : spB8 d s (f + 1) k a = spB8 d s f (k + 1) a := by
        simp only [spB8]
        rw [dif_pos hlt, if_neg hb]
      rw [h1, spl8_more hb, spB8_spl d s f (k + 1) a (by omega) (by omega) (by omega), consHead8_app]
      congr 1
      have hat := bytes_at8 s hlt
      obtain ⟨q1, q2⟩ := List.getElem?_eq_some_iff.1 hat
      rw [List.take_succ_eq_append_getElem q1, q2, List.drop_append_of_le_length (by rw [List.length_take]; omega)]
end Go.Proofs.Ytcaojaaooadeaaa
