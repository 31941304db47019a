/- Centring: the model's leaders and lines. -/
import Derived.Test.YtalmpiffjghhkaaCen1
import Derived.Test.YtalmpiffjghhkaaStrO
namespace Go.Proofs.Ytalmpiffjghhkaa
open Go.RowKit Go.ChangeShapes Go.WideShapes Go.Deep
set_option linter.unusedVariables false
set_option linter.unusedSimpArgs false

def mostL (ls : List ByteArray) : Nat := ls.foldl (fun m x => max m x.size) 0
theorem mostL_next {ls : List ByteArray} {k : Nat} {x : ByteArray} (h : ls[k]? = some x) : mostL (ls.take (k + 1)) = max (mostL (ls.take k)) x.size := by rw [mostL, take8 h, List.foldl_append]; rfl
def linesB (ls : List ByteArray) : Int := if ls.all lineB = true then (if (30 : Int) < (ls.length : Int) then -1 else ((mostL ls : Nat) : Int)) else -1
theorem max10 (a b : Int) {v : Int} (hv : max a b = v) (w : World) : Calls Try.prog 42 #[.int .i64 a, .int .i64 b] w fun e w' => e = .returned (.int .i64 v) ∧ w = w' := by
  by_cases h : b < a
  · have hr : Hid (v = a) := Lib.hid (by rw [← hv]; omega)
    clear hv
    go_enter Try.func42, Try.ntmps42
    go_wp2
    go_ret
    exact ⟨ret_i64 hr.out.symm, rfl⟩
  · have hr : Hid (v = b) := Lib.hid (by rw [← hv]; omega)
    clear hv
    go_enter Try.func42, Try.ntmps42
    go_wp2
    go_ret
    exact ⟨ret_i64 hr.out.symm, rfl⟩
set_option maxHeartbeats 1200000 in
theorem lines10 (A : Option Addr) (n c : Nat) (ls : List ByteArray) {v : Int} (hv : linesB ls = v) (w : World) (h : Strs w A n ls) (hn : n ≤ 1048576) (hg : ∀ x ∈ ls, x.size ≤ maxLen) :
    Calls Try.prog 23 #[.slice A n c] w fun e w' => e = .returned (.int .i64 v) ∧ w = w' := by
  have hl := Lib.hid h.1
  have hres : Hid (v = if ls.all lineB = true then (if (30 : Int) < (n : Int) then -1 else ((mostL ls : Nat) : Int)) else -1) := Lib.hid (by rw [← hv, linesB, hl.out])
  have hg0 := Lib.hid hg
  clear hv hg
  go_enter Try.func23, Try.ntmps23
  go_wp2
  go_loopw [3, 4] (fun m i wr => ∃ k : Nat, k ≤ n ∧ i = .int .i64 k ∧ w = wr ∧ m = .int .i64 ((mostL (ls.take k) : Nat) : Int) ∧ ls.all lineB = (ls.drop k).all lineB) (fun _ i _ => n - (intOf i).toNat)
  case atStart => exact ⟨0, by omega, rfl, rfl, rfl, rfl⟩
  case round =>
    obtain ⟨k, hk, rfl, rfl, rfl, he⟩ := hrel
    replace he := Lib.hid he
    by_cases hlt : k < n
    · obtain ⟨b, off, x, rfl, hb, hx, c0⟩ := str_at h hlt
      have hst := Lib.hid (all8_drop (p := lineB) hx.out)
      have hmo := Lib.hid (mostL_next hx.out)
      have hxs := hg0.out x (List.mem_of_getElem? hx.out)
      obtain ⟨p, hp⟩ : ∃ p, mostL (ls.take k) = p := ⟨_, rfl⟩
      have hp0 := Lib.hid hp
      rw [hp] at hmo
      simp only [hp]
      cases h1 : lineB x with
      | false =>
        have hr : Hid (v = -1) := Lib.hid (by rw [hres.out, he.out, hst.out, h1]; rfl)
        have hj := Lib.hid (fun W => text_spec x 100 (lineB x) rfl W hxs)
        rw [h1] at hj
        clear h1
        go_wp2_with fail
        refine (hj.out _).mono ?_
        rintro e w' ⟨rfl, rfl⟩
        go_wp2
        go_ret
        exact ⟨ret_i64 hr.out.symm, rfl⟩
      | true =>
        have hnext : Hid (ls.all lineB = (ls.drop (k + 1)).all lineB) := Lib.hid (by rw [he.out, hst.out, h1]; rfl)
        have hj := Lib.hid (fun W => text_spec x 100 (lineB x) rfl W hxs)
        rw [h1] at hj
        have hmx := Lib.hid (fun W => max10 (p : Int) (x.size : Int) (v := ((max p x.size : Nat) : Int)) (by omega) W)
        clear h1 hp
        go_wp2_with fail
        refine (hj.out _).mono ?_
        rintro e w' ⟨rfl, rfl⟩
        go_wp2_with fail
        refine (hmx.out _).mono ?_
        rintro e w' ⟨rfl, rfl⟩
        go_wp2
        go_roundw
        case rel => exact ⟨k + 1, by omega, by go_num, by trivial, by rw [hmo.out], hnext.out⟩
        case measure => simp [intOf]; omega
    · obtain rfl : k = n := by omega
      have hr : Hid (v = if (30 : Int) < (k : Int) then -1 else ((mostL ls : Nat) : Int)) := Lib.hid (by rw [hres.out, he.out, all8_end (by rw [hl.out]; exact Nat.le_refl _), if_pos rfl])
      rw [List.take_of_length_le (by rw [hl.out]; exact Nat.le_refl _)]
      clear hres he
      obtain ⟨p, hp⟩ : ∃ p, mostL ls = p := ⟨_, rfl⟩
      simp only [hp] at hr ⊢
      replace hp := Lib.hid hp
      by_cases h30 : (30 : Int) < (k : Int)
      · have hr2 : Hid (v = -1) := Lib.hid (by rw [hr.out, if_pos h30])
        clear hr
        go_wp2
        go_ret
        exact ⟨ret_i64 hr2.out.symm, rfl⟩
      · have hr2 : Hid (v = (p : Int)) := Lib.hid (by rw [hr.out, if_neg h30])
        clear hr
        go_wp2
        go_ret
        exact ⟨ret_i64 hr2.out.symm, rfl⟩
end Go.Proofs.Ytalmpiffjghhkaa
