/- Centring: the model's leaders and lines. -/
import Derived.Test.YtalmpiffjghhkaaDoorCen1
import Derived.Test.YtalmpiffjghhkaaDoorStrO
namespace Go.Proofs.YtalmpiffjghhkaaDoor
open Go.RowKit Go.ChangeShapes Go.WideShapes Go.Deep
set_option linter.unusedVariables false
set_option linter.unusedSimpArgs false

set_option maxRecDepth 100000 in
set_option maxHeartbeats 2400000 in
theorem leader10_spec (a b : ByteArray) (wd : Int) (w : World) (ha : a.size ≤ 1048576) (hb : b.size ≤ 1048576) (hwf : (Lit.int .i64 wd).wf = true) :
    Calls Tryd.prog 21 #[.string a, .string b, .int .i64 wd] w fun e w' => e = .returned (.tuple #[.string (ldR a b wd).1, .int .i64 (ldR a b wd).2]) ∧ Below w.heap.size w w' := by
  clear hwf
  generalize hr : ldR a b wd = r
  replace hr := Lib.hid hr.symm
  cases h1 : settB a with
  | false =>
    have hres : Hid (r = (ByteArray.empty, 2)) := Lib.hid (by rw [hr.out, ldR, h1]; rfl)
    have hc := Lib.hid (fun W => text10 a h1 W (by unfold maxLen; omega))
    clear h1 hr
    go_enter Tryd.func21, Tryd.ntmps21
    go_wp2_with fail
    refine (hc.out _).mono ?_
    rintro e w1 ⟨rfl, rfl⟩
    go_wp2
    go_ret2
    exact ⟨ret_s10 hres.out, Below.refl _ _⟩
  | true =>
    have hc := Lib.hid (fun W => text10 a h1 W (by unfold maxLen; omega))
    cases h2 : settB b with
    | false =>
      have hres : Hid (r = (ByteArray.empty, 2)) := Lib.hid (by rw [hr.out, ldR, h1, h2]; rfl)
      have hc2 := Lib.hid (fun W => text10 b h2 W (by unfold maxLen; omega))
      clear h1 h2 hr
      go_enter Tryd.func21, Tryd.ntmps21
      go_wp2_with fail
      refine (hc.out _).mono ?_
      rintro e w1 ⟨rfl, rfl⟩
      go_wp2_with fail
      refine (hc2.out _).mono ?_
      rintro e w1 ⟨rfl, rfl⟩
      go_wp2
      go_ret2
      exact ⟨ret_s10 hres.out, Below.refl _ _⟩
    | true =>
      have hc2 := Lib.hid (fun W => text10 b h2 W (by unfold maxLen; omega))
      cases h3 : inR wd 1 100 with
      | false =>
        have hres : Hid (r = (ByteArray.empty, 2)) := Lib.hid (by rw [hr.out, ldR, h1, h2, h3]; rfl)
        have hc3 := Lib.hid (fun W => in8_spec h3 W)
        clear h1 h2 h3 hr
        go_enter Tryd.func21, Tryd.ntmps21
        go_wp2_with fail
        refine (hc.out _).mono ?_
        rintro e w1 ⟨rfl, rfl⟩
        go_wp2_with fail
        refine (hc2.out _).mono ?_
        rintro e w1 ⟨rfl, rfl⟩
        go_wp2_with fail
        refine (hc3.out _).mono ?_
        rintro e w1 ⟨rfl, rfl⟩
        go_wp2
        go_ret2
        exact ⟨ret_s10 hres.out, Below.refl _ _⟩
      | true =>
        have hc3 := Lib.hid (fun W => in8_spec h3 W)
        have a1 := settB_size h1
        have b1 := settB_size h2
        obtain ⟨d1, d2⟩ : 1 ≤ wd ∧ wd ≤ 100 := by simpa [inR] using h3
        obtain ⟨m, hm⟩ : ∃ m, wd - ((a.size : Int) + (b.size : Int)) - 2 = m := ⟨_, rfl⟩
        have hw1 : IntKind.i64.wrap ((a.size : Int) + (b.size : Int)) = (a.size : Int) + (b.size : Int) := IntWalk.i64_in _ (by omega)
        have hw2 : IntKind.i64.wrap (wd - ((a.size : Int) + (b.size : Int))) = wd - ((a.size : Int) + (b.size : Int)) := IntWalk.i64_in _ (by omega)
        have hw3 : IntKind.i64.wrap (wd - ((a.size : Int) + (b.size : Int)) - 2) = m := by rw [IntWalk.i64_in _ (by omega), hm]
        by_cases h4 : m < 2
        · have hres : Hid (r = (ByteArray.empty, 5)) := Lib.hid (by rw [hr.out, ldR, h1, h2, h3, hm, if_pos (by rfl), if_pos h4])
          have g1 : decide (m < 2) = true := decide_eq_true h4
          replace hm := Lib.hid hm
          clear h1 h2 h3 hr
          go_enter Tryd.func21, Tryd.ntmps21
          go_wp2_with fail
          refine (hc.out _).mono ?_
          rintro e w1 ⟨rfl, rfl⟩
          go_wp2_with fail
          refine (hc2.out _).mono ?_
          rintro e w1 ⟨rfl, rfl⟩
          go_wp2_with fail
          refine (hc3.out _).mono ?_
          rintro e w1 ⟨rfl, rfl⟩
          go_wp2
          go_ret2
          exact ⟨ret_s10 hres.out, Below.refl _ _⟩
        · obtain ⟨M, rfl⟩ : ∃ M : Nat, m = (M : Int) := ⟨m.toNat, by omega⟩
          have hres : Hid (r = (a ++ ⟨#[32]⟩ ++ repB 46 M ++ ⟨#[32]⟩ ++ b, 0)) := Lib.hid (by rw [hr.out, ldR, h1, h2, h3, hm, if_pos (by rfl), if_neg h4, Int.toNat_natCast])
          have g1 : decide ((M : Int) < 2) = false := decide_eq_false h4
          have hM : M ≤ 100 := by omega
          have hru : Hid (∀ W', Calls Tryd.prog 44 #[.int .u8 46, .int .i64 (M : Int)] W' fun e w' => e = .returned (.string (repB 46 M)) ∧ Below W'.heap.size W' w') := Lib.hid (fun W' => rule10 46 M (by omega) W')
          have hsz := repB_size 46 M
          replace hm := Lib.hid hm
          have hcat1 : ¬ 9223372036854775807 < a.size + 1 := by omega
          have hcat2 : ¬ 9223372036854775807 < a.size + 1 + (repB 46 M).size := by omega
          have hcat3 : ¬ 9223372036854775807 < a.size + 1 + (repB 46 M).size + 1 := by omega
          have hcat4 : ¬ 9223372036854775807 < a.size + 1 + (repB 46 M).size + 1 + b.size := by omega
          generalize repB 46 M = R at *
          have hb1 : (ByteArray.mk #[32]).size = 1 := rfl
          clear h1 h2 h3 hr
          go_enter Tryd.func21, Tryd.ntmps21
          go_wp2_with fail
          refine (hc.out _).mono ?_
          rintro e w1 ⟨rfl, rfl⟩
          go_wp2_with fail
          refine (hc2.out _).mono ?_
          rintro e w1 ⟨rfl, rfl⟩
          go_wp2_with fail
          refine (hc3.out _).mono ?_
          rintro e w1 ⟨rfl, rfl⟩
          go_wp2_with fail
          refine (hru.out _).mono ?_
          rintro e w2 ⟨rfl, hb2⟩
          go_wp2
          go_ret2
          exact ⟨ret_s10 hres.out, hb2⟩
def mostL (ls : List ByteArray) : Nat := ls.foldl (fun m x => max m x.size) 0
theorem mostL_next {ls : List ByteArray} {k : Nat} {x : ByteArray} (h : ls[k]? = some x) : mostL (ls.take (k + 1)) = max (mostL (ls.take k)) x.size := by rw [mostL, take8 h, List.foldl_append]; rfl
def linesB (ls : List ByteArray) : Int := if ls.all lineB = true then (if (30 : Int) < (ls.length : Int) then -1 else ((mostL ls : Nat) : Int)) else -1
end Go.Proofs.YtalmpiffjghhkaaDoor
