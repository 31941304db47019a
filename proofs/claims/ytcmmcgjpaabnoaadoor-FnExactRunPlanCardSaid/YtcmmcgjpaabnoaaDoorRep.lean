/- Texts of one byte, many times, by the library. -/
import Derived.Test.YtcmmcgjpaabnoaaDoorByt
import Derived.Test.YtcmmcgjpaabnoaaDoorShelf
namespace Go.Proofs.YtcmmcgjpaabnoaaDoor
open Go.RowKit Go.ChangeShapes Go.WideShapes Go.Deep
set_option linter.unusedVariables false
set_option linter.unusedSimpArgs false

theorem repeat_b10 (b : UInt8) : ∀ c, Lib.repeatL [b] c = List.replicate c b
  | 0 => rfl
  | c + 1 => by rw [Lib.repeatL, repeat_b10 b c]; rfl
theorem rep10 (b : UInt8) (n : Nat) (hn : n ≤ 1000) (w : World) : Calls Tryd.prog 25 #[.string ⟨#[b]⟩, .int .i64 (n : Int)] w fun e w' => e = .returned (.string (repB b n)) ∧ Below w.heap.size w w' := by
  have h := Tryd.strings_Repeat ⟨#[b]⟩ n w (by omega) (by simp only [show (⟨#[b]⟩ : ByteArray).size = 1 from rfl]; omega)
  rw [show (⟨#[b]⟩ : ByteArray).data.toList = [b] from rfl, repeat_b10] at h
  exact h
theorem blanks10_impl (n : Nat) (hn : n ≤ 1000) (w : World) : Calls Tryd.prog 13 #[.int .i64 (n : Int)] w fun e w' => e = .returned (.string (repB 32 n)) ∧ Below w.heap.size w w' := by
  have hrep := Lib.hid (fun W => rep10 32 n hn W)
  go_enter Tryd.func13, Tryd.ntmps13
  go_wp2_with fail
  refine (hrep.out _).mono ?_
  rintro e w1 ⟨rfl, hb1⟩
  go_wp2
  go_ret
  exact ⟨rfl, hb1⟩
end Go.Proofs.YtcmmcgjpaabnoaaDoor
