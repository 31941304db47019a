/- Two letters exchanged: the model's function and the program's. -/
import Derived.Test.YtbhiimleagldgaaSwp0
namespace Go.Proofs.Ytbhiimleagldgaa
open Go.RowKit
set_option linter.unusedVariables false
set_option linter.unusedSimpArgs false

set_option maxHeartbeats 1600000 in
theorem swap_impl (A : Option Addr) (n c : Nat) (ps : List Int) (i k : Nat) (x y : Int) (w : World) (h : Ints w A n ps) (hn : n ≤ 1048576) (hi : ps[i]? = some x) (hk : ps[k]? = some y) :
    Calls Try.prog 33 #[.slice A n c, .int .i64 (i : Int), .int .i64 (k : Int)] w (CopyOut n (swapL ps i k) w) := by
  have hin : i < n := by have := (List.getElem?_eq_some_iff.1 hi).1; rw [h.1] at this; exact this
  have hkn : k < n := by have := (List.getElem?_eq_some_iff.1 hk).1; rw [h.1] at this; exact this
  have hcp := Lib.hid (clone_impl A n c ps w h (by omega) hn)
  replace hi := Lib.hid hi
  replace hk := Lib.hid hk
  have i0 : (0 : Int) ≤ (i : Int) := Int.natCast_nonneg _
  have i1 : (i : Int) < (n : Int) := by omega
  have k0 : (0 : Int) ≤ (k : Int) := Int.natCast_nonneg _
  have k1 : (k : Int) < (n : Int) := by omega
  clear h
  go_enter Try.func33, Try.ntmps33
  go_wp2_with fail
  refine (hcp.out).mono ?_
  rintro e w1 ⟨g, d, rfl, hd, hO, hb1⟩
  have hres := Lib.hid (hO.swap hi.out hk.out)
  have hg : w.heap.size ≤ g := hO.own _ rfl
  obtain ⟨m, f, hr, hm⟩ : ∃ m f, w1.rowIs g 2 m f ∧ n ≤ m := by
    rcases hO with ⟨_, ⟨h0, _⟩ | ⟨g', m, f, h1, _, hr, hm, _⟩⟩
    · cases h0
    · cases h1
      exact ⟨m, f, hr, by omega⟩
  obtain ⟨_, _, x', hA, _, hx, c0⟩ := int_at hO.srow hin
  cases hA
  obtain ⟨_, _, y', hA, _, hy, c1⟩ := int_at hO.srow hkn
  cases hA
  obtain rfl : x = x' := by have := hx.out; rw [hi.out] at this; exact Option.some.inj this
  obtain rfl : y = y' := by have := hy.out; rw [hk.out] at this; exact Option.some.inj this
  rw [Nat.zero_add] at c0 c1
  have e0 := hr.frozen i
  have e1 := (hr.set i (.int .i64 y)).frozen k
  have d1 := (hr.set i (.int .i64 y)).cell (i := k) (by omega)
  have hbel := Lib.hid ((((Below.refl _ _).step hb1).setCell (p := ⟨g, i, none⟩) hg (.int .i64 y)).setCell (p := ⟨g, k, none⟩) hg (.int .i64 x))
  clear hO hb1 hr
  go_wp2
  go_region
  go_wp2
  go_ret
  exact ⟨_, _, rfl, hd, hres.out, hbel.out.drew⟩
end Go.Proofs.Ytbhiimleagldgaa
