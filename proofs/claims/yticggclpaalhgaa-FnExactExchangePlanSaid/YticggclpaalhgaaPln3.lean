/- A layout's keys, row by row: the program's function. -/
import Derived.Test.YticggclpaalhgaaPln0
import Derived.Test.YticggclpaalhgaaShelf
import Derived.Lib.Join
namespace Go.Proofs.Yticggclpaalhgaa
open Go.RowKit Go.ChangeShapes Go.WideShapes Go.Deep
set_option linter.unusedVariables false
set_option linter.unusedSimpArgs false

theorem join_flat6 : ∀ l : List ByteArray, Lib.join (l.map (·.data.toList)) [] = flat6 l
  | [] => by simp [Lib.join, flat6]
  | [a] => by simp [Lib.join, flat6, List.intercalate]
  | a :: b :: l => by
    have := join_flat6 (b :: l)
    simp only [List.map_cons, Lib.join, flat6, List.flatMap_cons, List.intercalate, List.intersperse_cons_cons, List.flatten_cons, List.nil_append] at this ⊢
    rw [this]

set_option maxRecDepth 100000 in
set_option maxHeartbeats 1600000 in
theorem keys_any (A : Option Addr) (n c : Nat) (xs : List ByteArray) (w : World) (h : Strs w A n xs) (hn1 : 1 ≤ n) (hc : n ≤ c) (hn : n ≤ 1048576) (hf : (flat6 xs).length ≤ 1048576) :
    Calls Try.prog 65 #[.agg #[.slice A n c]] w fun e w' => e = .returned (.string ⟨(flat6 xs).toArray⟩) ∧ Below w.heap.size w w' := by
  have hl := h.1
  have hcall : Hid (∀ W, Strs W A n xs → Calls Try.prog 78 #[.slice A n c, .string ⟨#[]⟩] W fun e w' => e = .returned (.string ⟨(flat6 xs).toArray⟩) ∧ Below W.heap.size W w') := Lib.hid fun W hW => by
    obtain ⟨b, off, rfl, hb, hcl⟩ := hW.2 (by omega)
    have := Try.strings_Join b off c xs ⟨#[]⟩ W (fun j x hx => by
      have := hcl j x hx 0 _ rfl
      rwa [Nat.mul_one, Nat.add_zero] at this) hb (by omega) (by omega) (by
        show (Lib.join _ []).length ≤ _
        rw [join_flat6]; omega)
    rw [show (⟨#[]⟩ : ByteArray).data.toList = [] from rfl, join_flat6, hl] at this
    exact this
  have hb0 := Lib.hid (below_a1 w (.cells #[.slice A n c] 27))
  have k0 : (w.alloc (.cells #[.slice A n c] 27)).cell? ⟨w.heap.size, 0, none⟩ = some (.slice A n c) := cell_new rfl rfl
  have hX := h.below hb0.out
  clear hl
  go_enter Try.func65, Try.ntmps65
  go_wp2_with fail
  refine (hcall.out _ hX).mono ?_
  rintro e w1 ⟨rfl, hb1⟩
  have hbw := Lib.hid (hb0.out.step hb1)
  go_wp2
  go_ret
  exact ⟨rfl, hbw.out⟩
end Go.Proofs.Yticggclpaalhgaa
