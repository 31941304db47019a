/- SwapLetters: the model's function and the program's. -/
import Derived.Test.YtbhiimleagldgaaSwp1
namespace Go.Proofs.Ytbhiimleagldgaa
open Go.RowKit
set_option linter.unusedVariables false
set_option linter.unusedSimpArgs false

def swapLetters (b : BasketD) (ps : List Int) (i k : Int) : List Int × Int :=
  if plCode b ps = 0 then (if (isIn i 0 ((ps.length : Int) - 1) && isIn k 0 ((ps.length : Int) - 1)) = true then (swapL ps i.toNat k.toNat, 0) else ([], 2)) else ([], plCode b ps)
/-- A slice that the call owns, and a code. -/
def SwOut (r : List Int × Int) (w : World) (e : Ending) (w' : World) : Prop :=
  ∃ A n c, e = .returned (.tuple #[.slice A n c, .int .i64 r.2]) ∧ n ≤ 1048576 ∧ OInts w' w.heap.size A n r.1 ∧ Below w.heap.size w w'
theorem SwOut.bad {r : List Int × Int} {w w' : World} {code : Int} (hr : r = ([], code)) (hb : Below w.heap.size w w') : SwOut r w (.returned (.tuple #[.slice none 0 0, .int .i64 code])) w' := by
  subst hr
  exact ⟨none, 0, 0, rfl, by omega, ORow.nil_, hb⟩
theorem plCode_0 {b : BasketD} {ps : List Int} (h1 : basketOk b = true) (h2 : placesOk b ps = true) : plCode b ps = 0 := by simp [plCode, h1, h2]
theorem plCode_1 {b : BasketD} {ps : List Int} (h1 : basketOk b = false) : plCode b ps = 1 := by simp [plCode, h1]
theorem plCode_2 {b : BasketD} {ps : List Int} (h1 : basketOk b = true) (h2 : placesOk b ps = false) : plCode b ps = 2 := by simp [plCode, h1, h2]

set_option maxRecDepth 100000 in
set_option maxHeartbeats 1600000 in
theorem sw_impl (b : BasketD) (A : Option Addr) (n c : Nat) (ps : List Int) (i k : Int) (w : World) (hb : b.good) (h : Ints w A n ps) (hn : n ≤ 1048576) (hx : ∀ x ∈ ps, intGood x) (hi : (Lit.int .i64 i).wf = true) (hk : (Lit.int .i64 k).wf = true) :
    Calls Try.prog 14 #[.agg #[.int .i64 b.bars, .int .i64 b.rise, .int .i64 b.fall, .int .i64 b.clear, .int .i64 b.near], .slice A n n, .int .i64 i, .int .i64 k] w (SwOut (swapLetters b ps i k) w) := by
  generalize hr : swapLetters b ps i k = r
  replace hr := Lib.hid hr.symm
  have hb0 := Lib.hid (below_a1 w (.cells #[.int .i64 b.bars, .int .i64 b.rise, .int .i64 b.fall, .int .i64 b.clear, .int .i64 b.near] 25))
  have hl := Lib.hid h.1
  have hS := h.below hb0.out
  clear hx hi hk hb
  by_cases h0 : plCode b ps = 0
  · obtain ⟨h1, h2⟩ := plCode_ok h0
    have hc1 := Lib.hid (fun W (hW : Ints W A n ps) => codeP_impl b A n n ps h0 W hW hn (Nat.le_refl _))
    obtain ⟨n1, n7⟩ := placesOk_len h2
    rw [hl.out] at n1 n7
    have hr0 : Hid (r = if (isIn i 0 ((n : Int) - 1) && isIn k 0 ((n : Int) - 1)) = true then (swapL ps i.toNat k.toNat, 0) else ([], 2)) := Lib.hid (by rw [hr.out, swapLetters, if_pos h0, hl.out])
    have hw0 : IntKind.i64.wrap ((n : Int) - 1) = (n : Int) - 1 := IntWalk.i64_in _ (by omega)
    have n1' : (1 : Int) ≤ (n : Int) := by omega
    clear h0 h1 h2 hr
    cases h3 : isIn i 0 ((n : Int) - 1) with
    | false =>
      have hres : Hid (r = ([], 2)) := Lib.hid (by rw [hr0.out]; simp [h3])
      have hc3 := Lib.hid (fun W => in_impl h3 W)
      clear h3 hr0
      go_enter Try.func14, Try.ntmps14
      go_wp2_with fail
      refine (hc1.out _ hS).mono ?_
      rintro e w1 ⟨rfl, hb1⟩
      go_wp2_with fail
      refine (hc3.out _).mono ?_
      rintro e w3 ⟨rfl, rfl⟩
      go_wp2
      go_ret2
      exact SwOut.bad hres.out (hb0.out.step hb1)
    | true =>
      have hc3 := Lib.hid (fun W => in_impl h3 W)
      cases h4 : isIn k 0 ((n : Int) - 1) with
      | false =>
        have hres : Hid (r = ([], 2)) := Lib.hid (by rw [hr0.out]; simp [h3, h4])
        have hc4 := Lib.hid (fun W => in_impl h4 W)
        clear h3 h4 hr0
        go_enter Try.func14, Try.ntmps14
        go_wp2_with fail
        refine (hc1.out _ hS).mono ?_
        rintro e w1 ⟨rfl, hb1⟩
        go_wp2_with fail
        refine (hc3.out _).mono ?_
        rintro e w3 ⟨rfl, rfl⟩
        go_wp2_with fail
        refine (hc4.out _).mono ?_
        rintro e w4 ⟨rfl, rfl⟩
        go_wp2
        go_ret2
        exact SwOut.bad hres.out (hb0.out.step hb1)
      | true =>
        have hc4 := Lib.hid (fun W => in_impl h4 W)
        obtain ⟨i0, i1⟩ := isIn_iff.1 h3
        obtain ⟨k0, k1⟩ := isIn_iff.1 h4
        have hres0 : r = (swapL ps i.toNat k.toNat, 0) := by rw [hr0.out]; simp [h3, h4]
        obtain ⟨i', rfl⟩ : ∃ i' : Nat, i = (i' : Int) := ⟨i.toNat, by omega⟩
        obtain ⟨k', rfl⟩ : ∃ k' : Nat, k = (k' : Int) := ⟨k.toNat, by omega⟩
        have hres : Hid (r = (swapL ps i' k', 0)) := Lib.hid (by rw [hres0]; rfl)
        have hci := Lib.hid (fun W (hW : Ints W A n ps) => swap_impl A n n ps i' k' _ _ W hW hn (List.getElem?_eq_getElem (by rw [hl.out]; omega)) (List.getElem?_eq_getElem (by rw [hl.out]; omega)))
        clear h3 h4 hr0 hres0
        go_enter Try.func14, Try.ntmps14
        go_wp2_with fail
        refine (hc1.out _ hS).mono ?_
        rintro e w1 ⟨rfl, hb1⟩
        go_wp2_with fail
        refine (hc3.out _).mono ?_
        rintro e w3 ⟨rfl, rfl⟩
        go_wp2_with fail
        refine (hc4.out _).mono ?_
        rintro e w4 ⟨rfl, rfl⟩
        go_wp2_with fail
        refine (hci.out _ (hS.below hb1)).mono ?_
        rintro e w5 ⟨g, d, rfl, hd, hO, hb5⟩
        have hfin := Lib.hid (show OInts w5 w.heap.size _ n r.1 by rw [hres.out]; exact hO.mono (hb0.out.step hb1).size)
        have hbel := Lib.hid ((hb0.out.step hb1).step hb5)
        clear hO hb5
        have hcode : Hid (r.2 = 0) := Lib.hid (by rw [hres.out])
        go_wp2
        go_ret2
        exact ⟨_, _, _, by rw [hcode.out]; rfl, by omega, hfin.out, hbel.out⟩
  · have hres : Hid (r = ([], plCode b ps)) := Lib.hid (by rw [hr.out, swapLetters, if_neg h0])
    have hc1 := Lib.hid (fun W (hW : Ints W A n ps) => codeP_impl b A n n ps rfl W hW hn (Nat.le_refl _))
    have hcs := plCode_cases b ps
    generalize plCode b ps = q at *
    have hq0 : (q == 0) = false := by simpa using h0
    clear h0 hr
    rcases hcs with rfl | rfl | rfl
    · simp at hq0
    · clear hq0
      go_enter Try.func14, Try.ntmps14
      go_wp2_with fail
      refine (hc1.out _ hS).mono ?_
      rintro e w1 ⟨rfl, hb1⟩
      go_wp2
      go_ret2
      exact SwOut.bad hres.out (hb0.out.step hb1)
    · clear hq0
      go_enter Try.func14, Try.ntmps14
      go_wp2_with fail
      refine (hc1.out _ hS).mono ?_
      rintro e w1 ⟨rfl, hb1⟩
      go_wp2
      go_ret2
      exact SwOut.bad hres.out (hb0.out.step hb1)
end Go.Proofs.Ytbhiimleagldgaa
