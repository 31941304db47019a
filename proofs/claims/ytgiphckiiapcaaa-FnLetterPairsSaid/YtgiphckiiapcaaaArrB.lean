/- Tables of pairs: which are valid, and the code of a basket, pairs and an arrangement; the model's functions and the program's. -/
import Derived.Test.YtgiphckiiapcaaaArrA
import Derived.Test.YtgiphckiiapcaaaIssD
namespace Go.Proofs.Ytgiphckiiapcaaa
open Go.RowKit
set_option linter.unusedVariables false
set_option linter.unusedSimpArgs false

set_option maxHeartbeats 1600000 in
theorem ok5_spec (A : Option Addr) (n c : Nat) (xss : List (List Int)) {v : Bool} (hv : pairsOk xss = v) (w : World) (h : IntSS w A n xss) (hn : n ≤ 1048576) :
    Calls Try.prog 44 #[.slice A n c] w fun e w' => e = .returned (.bool v) ∧ w = w' := by
  have hl0 := Lib.hid h.len
  have hv0 : Hid ((xss.all (rowOk n) && isIn (n : Int) 2 7) = v) := Lib.hid (by rw [← hv, pairsOk, hl0.out])
  clear hv
  go_enter Try.func44, Try.ntmps44
  go_wp2
  go_loopw [4] (fun i wr => ∃ k : Nat, k ≤ n ∧ i = .int .i64 k ∧ w = wr ∧ xss.all (rowOk n) = (xss.drop k).all (rowOk n)) (fun i _ => n - (intOf i).toNat)
  case atStart => exact ⟨0, by omega, rfl, rfl, rfl⟩
  case round =>
    obtain ⟨k, hk, rfl, rfl, he⟩ := hrel
    replace he := Lib.hid he
    by_cases hlt : k < n
    · obtain ⟨b, off, B, m, cc, xs, rfl, hb, hx, c0, hI, hm⟩ := iss_at h hlt
      have hst := Lib.hid (all_drop (p := rowOk n) hx.out)
      have hk0 : (0 : Int) ≤ (k : Int) := Int.natCast_nonneg _
      have hk1 : (k : Int) < (n : Int) := by omega
      have hro : Hid (rowOk n xs = (decide (m = n) && xs.all fun x => isIn x 0 1000)) := Lib.hid (by rw [rowOk, hI.1])
      by_cases hmn : m = n
      · subst hmn
        have hro2 : Hid (rowOk m xs = xs.all fun x => isIn x 0 1000) := Lib.hid (by rw [hro.out]; simp)
        clear hro
        go_wp2
        go_loopw [5] (fun i wq => ∃ q : Nat, q ≤ m ∧ i = .int .i64 q ∧ w = wq ∧ (xs.all fun x => isIn x 0 1000) = ((xs.drop q).all fun x => isIn x 0 1000)) (fun i _ => m - (intOf i).toNat)
        case atStart => exact ⟨0, by omega, rfl, rfl, rfl⟩
        case round =>
          obtain ⟨q, hq, rfl, rfl, he2⟩ := hrel
          replace he2 := Lib.hid he2
          by_cases hltq : q < m
          · obtain ⟨bb, off2, x, rfl, hbb, hxx, g0⟩ := int_at hI hltq
            have hst2 := Lib.hid (all_drop (p := fun x => isIn x 0 1000) hxx.out)
            have hq0 : (0 : Int) ≤ (q : Int) := Int.natCast_nonneg _
            have hq1 : (q : Int) < (m : Int) := by omega
            cases h1 : isIn x 0 1000 with
            | false =>
              have hr : Hid (v = false) := Lib.hid (by rw [← hv0.out, he.out, hst.out, hro2.out, he2.out, hst2.out]; simp only [h1]; rfl)
              have hj := Lib.hid (fun W => in_spec h1 W)
              clear h1
              go_wp2_with fail
              refine (hj.out _).mono ?_
              rintro e w2 ⟨rfl, rfl⟩
              go_wp2
              go_ret
              exact ⟨ret_bo hr.out.symm, rfl⟩
            | true =>
              have hnx : Hid ((xs.all fun x => isIn x 0 1000) = ((xs.drop (q + 1)).all fun x => isIn x 0 1000)) := Lib.hid (by rw [he2.out, hst2.out]; simp only [h1]; rfl)
              have hj := Lib.hid (fun W => in_spec h1 W)
              clear h1
              go_wp2_with fail
              refine (hj.out _).mono ?_
              rintro e w2 ⟨rfl, rfl⟩
              go_wp2
              go_roundw
              case rel => exact ⟨q + 1, by omega, by go_num, by trivial, hnx.out⟩
              case measure => simp [intOf]; omega
          · obtain rfl : q = m := by omega
            have hnx : Hid (xss.all (rowOk q) = (xss.drop (k + 1)).all (rowOk q)) := Lib.hid (by rw [he.out, hst.out, hro2.out, he2.out, all_end (by rw [hI.1]; omega)]; rfl)
            go_wp2
            go_roundw
            case rel => exact ⟨k + 1, by omega, by go_num, by trivial, hnx.out⟩
            case measure => simp [intOf]; omega
      · have hr : Hid (v = false) := Lib.hid (by rw [← hv0.out, he.out, hst.out, hro.out, decide_eq_false hmn]; rfl)
        have e1 : (m == n) = false := beq_eq_false_iff_ne.2 hmn
        have e2 : ((m : Int) == (n : Int)) = false := beq_eq_false_iff_ne.2 (by omega)
        go_wp2
        go_ret
        exact ⟨by rw [hr.out]; rfl, rfl⟩
    · obtain rfl : k = n := by omega
      have hr : Hid (isIn (k : Int) 2 7 = v) := Lib.hid (by rw [← hv0.out, he.out, all_end (by rw [hl0.out]; omega)]; rfl)
      go_wp2_with fail
      refine (in_spec hr.out _).mono ?_
      rintro e w' ⟨rfl, rfl⟩
      go_wp2
      go_ret
      exact ⟨rfl, rfl⟩

end Go.Proofs.Ytgiphckiiapcaaa
