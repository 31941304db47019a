/- SameLayout: the model's function and the program's. -/
import Derived.Test.YticggclpaalhgaaLayD
import Derived.Test.YticggclpaalhgaaLet0
namespace Go.Proofs.Yticggclpaalhgaa
open Go.RowKit
set_option linter.unusedVariables false
set_option linter.unusedSimpArgs false

theorem same_stop {xs ys : List ByteArray} {k : Nat} {x y : ByteArray} (hx : xs[k]? = some x) (hy : ys[k]? = some y) (h : ¬ x = y) : decide (xs = ys) = false := by
  refine decide_eq_false fun e => h ?_
  rw [e, hy] at hx
  exact (Option.some.inj hx).symm
theorem same_end {xs ys : List ByteArray} (hl : xs.length = ys.length) (h : ∀ j, j < xs.length → xs[j]? = ys[j]?) : decide (xs = ys) = true := by
  refine decide_eq_true (List.ext_getElem? fun i => ?_)
  rcases Nat.lt_or_ge i xs.length with hi | hi
  · exact h i hi
  · rw [List.getElem?_eq_none hi, List.getElem?_eq_none (by omega)]
set_option maxHeartbeats 800000 in
theorem equal_any (A B : Option Addr) (n m c d : Nat) (xs ys : List ByteArray) (w : World) (hA : Strs w A n xs) (hB : Strs w B m ys) (hn : n ≤ 1048576) (hm : m ≤ 1048576) (v : Bool) (hv : decide (xs = ys) = v) :
    Calls Try.prog 51 #[.slice A n c, .slice B m d] w fun e w' => e = .returned (.bool v) ∧ Below w.heap.size w w' := by
  have hlx := Lib.hid hA.1
  have hly := Lib.hid hB.1
  replace hv := Lib.hid hv
  by_cases hl : n = m
  · subst hl
    go_enter Try.func51, Try.ntmps51
    go_wp2
    go_loopw [5, 13] (fun _ i wr => ∃ k : Nat, k ≤ n ∧ i = .int .i64 k ∧ (∀ j, j < k → xs[j]? = ys[j]?) ∧ Below w.heap.size w wr) (fun _ i _ => n - (intOf i).toNat)
    case atStart => exact ⟨0, by omega, rfl, fun j hj => absurd hj (by omega), Below.refl _ _⟩
    case round =>
      obtain ⟨k, hk, rfl, hall, hbw⟩ := hrel
      replace hall := Lib.hid hall
      by_cases hlt : k < n
      · obtain ⟨b, off, x, rfl, hb, hx, c0⟩ := str_at (hA.below hbw) hlt
        obtain ⟨b', off', y, rfl, hb', hy, d0⟩ := str_at (hB.below hbw) hlt
        have hk0 : (0 : Int) ≤ (k : Int) := Int.natCast_nonneg _
        have hk1 : (k : Int) < (n : Int) := by omega
        by_cases hq : x = y
        · have hnx : Hid (∀ j, j < k + 1 → xs[j]? = ys[j]?) := Lib.hid fun j hj => by
            rcases Nat.lt_or_ge j k with h' | h'
            · exact hall.out j h'
            · obtain rfl : j = k := by omega
              rw [hx.out, hy.out, hq]
          have g := str_eq_true hq
          clear hq
          go_wp2_with fail
          go_quiet (fail)
          go_wp2
          go_roundw
          case rel => exact ⟨k + 1, by omega, by go_num, hnx.out, below_drewN hbw _⟩
          case measure => simp [intOf]; omega
        · have hres := Lib.hid (hv.out.symm.trans (same_stop hx.out hy.out hq))
          have g := str_eq_false hq
          clear hq
          go_wp2_with fail
          go_quiet (fail)
          go_wp2
          go_ret
          exact ⟨ret_bo hres.out.symm, below_drewN hbw _⟩
      · obtain rfl : k = n := by omega
        have hres := Lib.hid (hv.out.symm.trans (same_end (by rw [hlx.out, hly.out]) (fun j hj => hall.out j (by rw [← hlx.out]; exact hj))))
        go_wp2
        go_ret
        exact ⟨ret_bo hres.out.symm, hbw⟩
  · have hl' : ((n : Int) == (m : Int)) = false := beq_eq_false_iff_ne.2 (by omega)
    have hres : Hid (v = false) := Lib.hid (by rw [← hv.out]; exact decide_eq_false fun e => hl (by rw [← hlx.out, ← hly.out, e]))
    clear hl
    go_enter Try.func51, Try.ntmps51
    go_wp2
    go_ret
    exact ⟨ret_bo hres.out.symm, Below.refl _ _⟩
theorem same_impl (A : Option Addr) (n c : Nat) (xs : List ByteArray) (B : Option Addr) (m d : Nat) (ys : List ByteArray) (w : World) (hA : Strs w A n xs) (hn : n ≤ 1048576) (hs : ∀ x ∈ xs, x.size ≤ 1048576) (hB : Strs w B m ys) (hm : m ≤ 1048576) (hs' : ∀ x ∈ ys, x.size ≤ 1048576) :
    Calls Try.prog 20 #[.agg #[.slice A n c], .agg #[.slice B m d]] w fun e w' => e = .returned (.bool (decide (xs = ys))) ∧ Below w.heap.size w w' := by
  have hb0 := Lib.hid (below_a2 w (.cells #[.slice A n c] 27) (.cells #[.slice B m d] 27))
  have hq := Lib.hid (equal_any A B n m c d xs ys _ (hA.below hb0.out) (hB.below hb0.out) hn hm _ rfl)
  clear hA hB hs hs'
  go_enter Try.func20, Try.ntmps20
  go_wp2_with fail
  refine hq.out.mono ?_
  rintro e w1 ⟨rfl, hb1⟩
  have hbw := Lib.hid (hb0.out.step hb1)
  go_wp2
  go_ret
  exact ⟨rfl, hbw.out⟩
set_option maxHeartbeats 800000 in
theorem same_spec (A : Option Addr) (n c : Nat) (xs : List ByteArray) (B : Option Addr) (m d : Nat) (ys : List ByteArray) (w : World) (hA : Strs w A n xs) (hn : n ≤ 1048576) (hs : ∀ x ∈ xs, x.size ≤ 1048576) (hB : Strs w B m ys) (hm : m ≤ 1048576) (hs' : ∀ x ∈ ys, x.size ≤ 1048576) :
    Calls Try.prog 19 #[.agg #[.slice A n c], .agg #[.slice B m d]] w fun e w' => e = .returned (.bool (decide (xs = ys))) ∧ Below w.heap.size w w' := by
  generalize hv : decide (xs = ys) = v
  have hlx := Lib.hid hA.1
  have hly := Lib.hid hB.1
  replace hv := Lib.hid hv
  have hb0 := Lib.hid (below_a2 w (.cells #[.slice A n c] 27) (.cells #[.slice B m d] 27))
  by_cases hl : n = m
  · subst hl
    go_enter Try.func19, Try.ntmps19
    go_wp2
    have k1 : ((w.alloc (.cells #[.slice A n c] 27)).alloc (.cells #[.slice B n d] 27)).cell? ⟨w.heap.size, 0, none⟩ = some (.slice A n c) := cell_on (cell_new rfl rfl) _
    have k2 : ((w.alloc (.cells #[.slice A n c] 27)).alloc (.cells #[.slice B n d] 27)).cell? ⟨w.heap.size + 1, 0, none⟩ = some (.slice B n d) := cell_new (by simp) rfl
    have hA2 := hA.below hb0.out
    have hB2 := hB.below hb0.out
    generalize ((w.alloc (.cells #[.slice A n c] 27)).alloc (.cells #[.slice B n d] 27)) = wa at *
    go_loopw [5] (fun i wr => ∃ k : Nat, k ≤ n ∧ i = .int .i64 k ∧ (∀ j, j < k → xs[j]? = ys[j]?) ∧ Below wa.heap.size wa wr) (fun i _ => n - (intOf i).toNat)
    case atStart => exact ⟨0, by omega, rfl, fun j hj => absurd hj (by omega), Below.refl _ _⟩
    case round =>
      obtain ⟨k, hk, rfl, hall, hbw⟩ := hrel
      replace hall := Lib.hid hall
      have q1 := cell_step k1 hbw
      have q2 := cell_step k2 hbw
      by_cases hlt : k < n
      · obtain ⟨b, off, x, rfl, hb, hx, c0⟩ := str_at (hA2.below hbw) hlt
        obtain ⟨b', off', y, rfl, hb', hy, d0⟩ := str_at (hB2.below hbw) hlt
        have hk0 : (0 : Int) ≤ (k : Int) := Int.natCast_nonneg _
        have hk1 : (k : Int) < (n : Int) := by omega
        by_cases hq : x = y
        · have hnx : Hid (∀ j, j < k + 1 → xs[j]? = ys[j]?) := Lib.hid fun j hj => by
            rcases Nat.lt_or_ge j k with h' | h'
            · exact hall.out j h'
            · obtain rfl : j = k := by omega
              rw [hx.out, hy.out, hq]
          have g := str_eq_true hq
          clear hq
          go_wp2_with fail
          go_quiet (fail)
          go_wp2
          go_roundw
          case rel => exact ⟨k + 1, by omega, by go_num, hnx.out, below_drewN hbw _⟩
          case measure => simp [intOf]; omega
        · have hres := Lib.hid (hv.out.symm.trans (same_stop hx.out hy.out hq))
          have g := str_eq_false hq
          clear hq
          go_wp2_with fail
          go_quiet (fail)
          go_wp2
          go_ret
          exact ⟨ret_bo hres.out.symm, hb0.out.step (below_drewN hbw _)⟩
      · obtain rfl : k = n := by omega
        have hres := Lib.hid (hv.out.symm.trans (same_end (by rw [hlx.out, hly.out]) (fun j hj => hall.out j (by rw [← hlx.out]; exact hj))))
        go_wp2
        go_ret
        exact ⟨ret_bo hres.out.symm, hb0.out.step hbw⟩
  · have hl' : ((n : Int) == (m : Int)) = false := beq_eq_false_iff_ne.2 (by omega)
    have hres : Hid (v = false) := Lib.hid (by rw [← hv.out]; exact decide_eq_false fun e => hl (by rw [← hlx.out, ← hly.out, e]))
    clear hl
    go_enter Try.func19, Try.ntmps19
    go_wp2
    go_ret
    exact ⟨ret_bo hres.out.symm, hb0.out⟩
end Go.Proofs.Yticggclpaalhgaa
