/- Racks of stops: the program's search, and the next stop. -/
import Derived.Test.YtijelimpkcnbjaaTab1
namespace Go.Proofs.Ytijelimpkcnbjaa
open Go.RowKit Go.ChangeShapes Go.WideShapes Go.Deep
set_option linter.unusedVariables false
set_option linter.unusedSimpArgs false

theorem nan8a (x : Int) (w : World) : Calls Try.prog 45 #[.int .i64 x] w fun e w' => e = .returned (.bool false) ∧ w = w' := by
  go_enter Try.func45, Try.ntmps45
  go_wp2
  go_ret
  exact ⟨by simp, rfl⟩
theorem nan8b (x : Int) (w : World) : Calls Try.prog 47 #[.int .i64 x] w fun e w' => e = .returned (.bool false) ∧ w = w' := by
  go_enter Try.func47, Try.ntmps47
  go_wp2
  go_ret
  exact ⟨by simp, rfl⟩
theorem less8 {x y : Int} {v : Bool} (hv : decide (x < y) = v) (w : World) : Calls Try.prog 44 #[.int .i64 x, .int .i64 y] w fun e w' => e = .returned (.bool v) ∧ w = w' := by
  replace hv := Lib.hid hv
  go_enter Try.func44, Try.ntmps44
  go_wp2_with fail
  refine (nan8b x _).mono ?_
  rintro e w1 ⟨rfl, rfl⟩
  go_wp2
  go_ret
  exact ⟨ret_bo hv.out, rfl⟩
set_option maxRecDepth 100000 in
set_option maxHeartbeats 1600000 in
theorem search8 (A : Option Addr) (n c : Nat) (ps : List Int) (t : Int) (w : World) (h : Ints w A n ps) (hn : n ≤ 12) (hs : ∀ (a b : Nat) (x y : Int), a < b → ps[a]? = some x → ps[b]? = some y → x < y) {v : Bool} (hv : (ps[lowI8 t ps]? == some t) = v) :
    Calls Try.prog 35 #[.slice A n c, .int .i64 t] w fun e w' => e = .returned (.tuple #[.int .i64 (lowI8 t ps : Nat), .bool v]) ∧ w = w' := by
  have hs0 := Lib.hid hs
  have hv0 := Lib.hid hv
  have hl := Lib.hid h.1
  clear hs hv
  go_enter Try.func35, Try.ntmps35
  go_wp2
  go_loopw [7, 8] (fun s7 s8 wr => ∃ i j : Nat, s7 = .int .i64 i ∧ s8 = .int .i64 j ∧ i ≤ j ∧ j ≤ n ∧ w = wr ∧ (∀ (q : Nat) (x : Int), q < i → ps[q]? = some x → x < t) ∧ (∀ (q : Nat) (x : Int), j ≤ q → ps[q]? = some x → t ≤ x)) (fun s7 s8 _ => (intOf s8).toNat - (intOf s7).toNat)
  case atStart => exact ⟨0, n, rfl, rfl, by omega, by omega, rfl, fun q x h => absurd h (by omega), fun q x hq hx => by
    have := (List.getElem?_eq_some_iff.1 hx).1
    have := hl.out
    omega⟩
  case round =>
    obtain ⟨i, j, rfl, rfl, hij, hjn, rfl, h1, h2⟩ := hrel
    replace h1 := Lib.hid h1
    replace h2 := Lib.hid h2
    by_cases hlt : i < j
    · obtain ⟨b, off, y, rfl, hb, hy, c0⟩ := int_at (k := (i + j) / 2) h (by omega)
      by_cases hyt : y < t
      · have hc := Lib.hid (fun W => less8 (x := y) (y := t) (decide_eq_true hyt) W)
        go_wp2_with fail
        refine (hc.out _).mono ?_
        rintro e w1 ⟨rfl, rfl⟩
        go_wp2
        go_roundw
        case rel => exact ⟨(i + j) / 2 + 1, j, by rw [show ((i : Int) + (j : Int)) / 2 + 1 = (((i + j) / 2 + 1 : Nat) : Int) by omega], rfl, by omega, hjn, by trivial, fun q x hq hx => by
          rcases Nat.lt_or_ge q ((i + j) / 2) with h3 | h3
          · have := hs0.out q ((i + j) / 2) x y h3 hx hy.out
            omega
          · obtain rfl : q = (i + j) / 2 := by omega
            rw [hy.out] at hx
            cases hx
            exact hyt, h2.out⟩
        case measure => simp [intOf]; omega
      · have hc := Lib.hid (fun W => less8 (x := y) (y := t) (decide_eq_false hyt) W)
        go_wp2_with fail
        refine (hc.out _).mono ?_
        rintro e w1 ⟨rfl, rfl⟩
        go_wp2
        go_roundw
        case rel => exact ⟨i, (i + j) / 2, rfl, by rw [show ((i : Int) + (j : Int)) / 2 = (((i + j) / 2 : Nat) : Int) by omega], by omega, by omega, by trivial, h1.out, fun q x hq hx => by
          rcases Nat.lt_or_ge ((i + j) / 2) q with h3 | h3
          · have := hs0.out ((i + j) / 2) q y x h3 hy.out hx
            omega
          · obtain rfl : q = (i + j) / 2 := by omega
            rw [hy.out] at hx
            cases hx
            omega⟩
        case measure => simp [intOf]; omega
    · obtain rfl : i = j := by omega
      have hend := Lib.hid (lowI8_end t ps i (by rw [hl.out]; omega) h1.out (fun q x hq hx => by have := h2.out q x hq hx; omega))
      by_cases hin : i < n
      · obtain ⟨b, off, y, rfl, hb, hy, c0⟩ := int_at (k := i) h (by omega)
        have hi0 : (0 : Int) ≤ (i : Int) := Int.natCast_nonneg _
        have hi1 : (i : Int) < (n : Int) := by omega
        by_cases hyt : y = t
        · have hvt : Hid (v = true) := Lib.hid (by rw [← hv0.out, ← hend.out, hy.out, hyt]; simp)
          have e0 : (y == t) = true := beq_iff_eq.2 hyt
          replace hyt := Lib.hid hyt
          go_wp2
          go_ret2
          exact ⟨by rw [← hend.out, hvt.out]; rfl, rfl⟩
        · have hvt : Hid (v = false) := Lib.hid (by rw [← hv0.out, ← hend.out, hy.out]; simpa using hyt)
          have e0 : (y == t) = false := beq_eq_false_iff_ne.2 hyt
          replace hyt := Lib.hid hyt
          go_wp2_with fail
          refine (nan8a y _).mono ?_
          rintro e w1 ⟨rfl, rfl⟩
          go_wp2
          go_ret2
          exact ⟨by rw [← hend.out, hvt.out]; rfl, rfl⟩
      · have hvt : Hid (v = false) := Lib.hid (by rw [← hv0.out, ← hend.out, List.getElem?_eq_none (by rw [hl.out]; omega)]; rfl)
        have e0 : decide (i < n) = false := decide_eq_false hin
        go_wp2
        go_ret2
        exact ⟨by rw [← hend.out, hvt.out]; rfl, rfl⟩

def findT (ps : List Int) (m q : Int) : Value := if q = 0 then .tuple #[.int .i64 (lowI8 m ps : Nat), .bool (ps.contains m), .int .i64 0] else .tuple #[.int .i64 0, .bool false, .int .i64 q]
end Go.Proofs.Ytijelimpkcnbjaa
