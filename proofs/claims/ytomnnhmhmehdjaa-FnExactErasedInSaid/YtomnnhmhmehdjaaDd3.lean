/- Corrections: how many letters a plan erases, by the program. -/
import Derived.Test.YtomnnhmhmehdjaaDd2
import Derived.Test.YtomnnhmhmehdjaaShelf
namespace Go.Proofs.Ytomnnhmhmehdjaa
open Go.RowKit Go.ChangeShapes Go.WideShapes Go.Deep
set_option linter.unusedVariables false
set_option linter.unusedSimpArgs false

theorem nocor12 (p : ByteArray) {v : Bool} (hv : planB p = v) (w : World) (hp : p.size ≤ maxLen) :
    Calls Try.prog 67 #[.string p] w fun e w' => e = .returned (.bool (!v)) ∧ Below w.heap.size w w' := by
  have hc := Lib.hid (fun W => deeds12 p hv W hp)
  clear hv
  go_enter Try.func67, Try.ntmps67
  go_wp2_with fail
  refine (hc.out _).mono ?_
  rintro e w1 ⟨x, rfl, hb1, _⟩
  go_wp2
  go_ret
  exact ⟨rfl, hb1⟩
theorem count12 : ∀ l : List UInt8, Lib.countByte l 35 = (erL l : Int)
  | [] => rfl
  | c :: r => by
    have ih := count12 r
    have e : erL (c :: r) = erL r + if c.toNat = 35 then 1 else 0 := by
      unfold erL
      rw [List.filter_cons]
      by_cases h : c.toNat = 35
      · rw [if_pos (by simpa using h), if_pos h]; rfl
      · rw [if_neg (by simpa using h), if_neg h]; rfl
    unfold Lib.countByte at ih ⊢
    rw [List.count_cons, e]
    by_cases h : c.toNat = 35
    · have h' : c = 35 := UInt8.toNat_inj.1 h
      rw [if_pos h, if_pos (by simp [h'])]
      omega
    · have h' : ¬ c = 35 := fun hh => h (by rw [hh]; rfl)
      rw [if_neg h, if_neg (by simpa using h')]
      omega
theorem ei12_impl (s : ByteArray) (w : World) (hs : s.size ≤ 1048576) :
    Calls Try.prog 25 #[.string s] w fun e w' => e = .returned (.tuple #[.int .i64 (eiR s).1, .int .i64 (eiR s).2]) ∧ Below w.heap.size w w' := by
  generalize hr : eiR s = r
  replace hr := Lib.hid hr.symm
  have hsm : s.size ≤ maxLen := by unfold maxLen; omega
  cases h1 : planB s with
  | false =>
    have hres : Hid (r = (0, 7)) := Lib.hid (by rw [hr.out, eiR, h1]; rfl)
    have hc := Lib.hid (fun W => nocor12 s h1 W hsm)
    clear hr h1
    go_enter Try.func25, Try.ntmps25
    go_wp2_with fail
    refine (hc.out _).mono ?_
    rintro e w1 ⟨rfl, hb1⟩
    go_wp2
    go_ret2
    exact ⟨ret8_2 hres.out, hb1⟩
  | true =>
    have hres : Hid (r = ((erL s.data.toList : Int), 0)) := Lib.hid (by rw [hr.out, eiR, h1]; rfl)
    have hc := Lib.hid (fun W => nocor12 s h1 W hsm)
    have hct := Lib.hid (fun W => Try.strings_Count_one s 35 W)
    have he := Lib.hid (count12 s.data.toList)
    generalize Lib.countByte s.data.toList 35 = N at *
    clear hr h1
    go_enter Try.func25, Try.ntmps25
    go_wp2_with fail
    refine (hc.out _).mono ?_
    rintro e w1 ⟨rfl, hb1⟩
    go_wp2_with fail
    refine (hct.out _).mono ?_
    rintro e w2 ⟨rfl, rfl⟩
    go_wp2
    go_ret2
    exact ⟨ret8_2 (by rw [hres.out, he.out]), hb1⟩
end Go.Proofs.Ytomnnhmhmehdjaa
