/- Moves of the carriage: the model's plan of a row. -/
import Derived.Test.YtijelimpkcnbjaaTm4
namespace Go.Proofs.Ytijelimpkcnbjaa
open Go.RowKit Go.ChangeShapes Go.WideShapes Go.Deep
set_option linter.unusedVariables false
set_option linter.unusedSimpArgs false

theorem plS_space {ps : List Int} {s : ByteArray} {k : Nat} (h : (bAt s k).toNat = 32) : plS ps s (k + 1) = plS ps s k := by rw [plS, if_pos h]
theorem plS_letter {ps : List Int} {s : ByteArray} {k : Nat} (h : ¬ (bAt s k).toNat = 32) : plS ps s (k + 1) = ((plS ps s k).1 ++ wayP ps k (plS ps s k).2.1 ++ [39, bAt s k], k + 1, (plS ps s k).2.2 + (wayP ps k (plS ps s k).2.1).length) := by rw [plS, if_neg h]
theorem news2 (w : World) (a b : Value) (T : TypeId) : ∀ j u, [a, b][j]? = some u → (w.alloc (.cells #[a, b] T)).cell? ((⟨w.heap.size, 0, none⟩ : Addr).add j) = some u := by
  intro j u hu
  match j, hu with
  | 0, hu => cases hu; exact cell_new (by simp [Addr.add]) rfl
  | 1, hu => cases hu; exact cell_new (by simp [Addr.add]) rfl
  | j + 2, hu => simp at hu
theorem byt_two (x y : Int) : ∀ u ∈ [Value.int .u8 x, Value.int .u8 y], u.oneCell' = true := by
  intro u hu
  simp only [List.mem_cons, List.not_mem_nil, or_false] at hu
  rcases hu with rfl | rfl <;> rfl
theorem byt_add2 (l : List UInt8) (b c : UInt8) (x y : Int) (h : (b.toNat : Int) = x) (k : (c.toNat : Int) = y) : (l ++ [b, c]).map bytU = l.map bytU ++ [.int .u8 x, .int .u8 y] := by
  rw [List.map_append, ← h, ← k]; rfl
end Go.Proofs.Ytijelimpkcnbjaa
