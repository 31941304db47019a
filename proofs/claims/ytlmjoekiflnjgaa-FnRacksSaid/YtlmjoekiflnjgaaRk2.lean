/- The law on racks as one call: for every input it returns true. -/
import Derived.Test.YtlmjoekiflnjgaaRk0
import Derived.Test.YtlmjoekiflnjgaaRk1
import Derived.Test.YtlmjoekiflnjgaaTab2
import Derived.Test.YtlmjoekiflnjgaaTab4
import Derived.Test.YtlmjoekiflnjgaaRak8
namespace Go.Proofs.Ytlmjoekiflnjgaa
open Go.RowKit Go.ChangeShapes Go.WideShapes Go.Deep
set_option linter.unusedVariables false
set_option linter.unusedSimpArgs false

theorem big8 (A : Option Addr) (n c : Nat) (w : World) (v : Bool) (hv : decide (4096 < n) = v) (hn : n ≤ maxLen) :
    Calls Try.prog 4 #[.slice A n c] w fun e w' => e = .returned (.bool v) ∧ w = w' := by
  unfold maxLen at hn
  have hr : Hid (v = decide ((4096 : Int) < (n : Int))) := Lib.hid (by
    rw [← hv]
    apply decide_eq_decide.2
    omega)
  clear hv
  go_enter Try.func4, Try.ntmps4
  go_wp2
  go_ret
  exact ⟨ret_bo hr.out.symm, rfl⟩
set_option maxHeartbeats 800000 in
theorem f6ints_any (A B : Option Addr) (n c d : Nat) (xs : List Int) (w : World) (hA : Ints w A n xs) (hB : Ints w B n xs) (hn : n ≤ 1048576) :
    Calls Try.prog 14 #[.slice A n c, .slice B n d] w fun e w' => e = .returned (.bool true) ∧ Below w.heap.size w w' := by
  go_enter Try.func14, Try.ntmps14
  go_wp2
  go_loopw [5] (fun i wr => ∃ k : Nat, k ≤ n ∧ i = .int .i64 k ∧ Below w.heap.size w wr) (fun i _ => n - (intOf i).toNat)
  case atStart => exact ⟨0, by omega, rfl, Below.refl _ _⟩
  case round =>
    obtain ⟨k, hk, rfl, hbw⟩ := hrel
    by_cases hlt : k < n
    · obtain ⟨b, off, x, rfl, hb, hx, c0⟩ := int_at (hA.below hbw) hlt
      obtain ⟨b', off', y, rfl, hb', hy, d0⟩ := int_at (hB.below hbw) hlt
      obtain rfl : x = y := by have h1 := hx.out; have h2 := hy.out; rw [h1] at h2; exact Option.some.inj h2
      have hk0 : (0 : Int) ≤ (k : Int) := Int.natCast_nonneg _
      have hk1 : (k : Int) < (n : Int) := by omega
      have e1 : (x == x) = true := beq_self_eq_true x
      have e2 : (x != x) = false := by simp
      go_wp2_with fail
      go_quiet (fail)
      go_wp2
      go_roundw
      case rel => exact ⟨k + 1, by omega, by go_num, below_drewN hbw _⟩
      case measure => simp [intOf]; omega
    · obtain rfl : k = n := by omega
      go_wp2
      go_ret
      exact ⟨rfl, hbw⟩
theorem f6has_any (A : Option Addr) (n c : Nat) (xs : List Int) (x : Int) {v : Bool} (hv : xs.contains x = v) (w : World) (h : Ints w A n xs) (hn : n ≤ 1048576) :
    Calls Try.prog 19 #[.slice A n c, .int .i64 x] w fun e w' => e = .returned (.bool v) ∧ w = w' := by
  have hv0 : Hid (xs.contains x = v) := Lib.hid hv
  have hl := Lib.hid h.1
  clear hv
  go_enter Try.func19, Try.ntmps19
  go_wp2
  go_loopw [5] (fun i wr => ∃ k : Nat, k ≤ n ∧ i = .int .i64 k ∧ w = wr ∧ xs.contains x = (xs.drop k).contains x) (fun i _ => n - (intOf i).toNat)
  case atStart => exact ⟨0, by omega, rfl, rfl, rfl⟩
  case round =>
    obtain ⟨k, hk, rfl, rfl, he⟩ := hrel
    replace he := Lib.hid he
    by_cases hlt : k < n
    · obtain ⟨b, off, y, rfl, hb, hy, c0⟩ := int_at h hlt
      have hd := contains8_drop (x := x) hy.out
      cases h1 : (y == x) with
      | true =>
        have hr : Hid (v = true) := Lib.hid (by rw [← hv0.out, he.out, hd, show (x == y) = true by rw [beq_iff_eq] at h1 ⊢; exact h1.symm]; rfl)
        clear hd
        go_wp2
        go_ret
        exact ⟨ret_bo hr.out.symm, rfl⟩
      | false =>
        have hnx : Hid (xs.contains x = (xs.drop (k + 1)).contains x) := Lib.hid (by rw [he.out, hd, show (x == y) = false by rw [beq_eq_false_iff_ne] at h1 ⊢; exact fun q => h1 q.symm]; rfl)
        clear hd
        go_wp2
        go_roundw
        case rel => exact ⟨k + 1, by omega, by go_num, by trivial, hnx.out⟩
        case measure => simp [intOf]; omega
    · obtain rfl : k = n := by omega
      have hr : Hid (v = false) := Lib.hid (by rw [← hv0.out, he.out, contains8_end (by rw [hl.out])])
      go_wp2
      go_ret
      exact ⟨ret_bo hr.out.symm, rfl⟩
/-- What the list of a row's stops keeps. -/
theorem ints_same {w : World} {A B : Option Addr} {n m : Nat} {xs : List Int} (h : Ints w A n xs) (k : Ints w B m xs) : m = n := by rw [← h.1, ← k.1]
theorem clear_good {ps : List Int} {m : Int} (h : ∀ x ∈ ps, intGood x) : ∀ x ∈ (clearR ps m).1, intGood x := by
  unfold clearR
  split
  · split
    · intro x hx
      exact h x (List.mem_filter.1 hx).1
    · intro x hx; cases hx
  · intro x hx; cases hx

set_option maxRecDepth 100000 in
set_option maxHeartbeats 12800000 in
theorem fnRacks_any (A0 : Option Addr) (n0 c0 : Nat) (xs0 : List Int) (w : World) (h0 : n0 ≤ maxLen ∧ Bytes w A0 n0 xs0 ∧ ∀ x ∈ xs0, byteGood x) :
    Calls Try.prog 3 #[.slice A0 n0 c0] w fun e w' => e = .returned (.bool true) ∧ Below w.heap.size w w' := by
  obtain ⟨hm0, P0, hg0⟩ := h0
  replace hg0 := Lib.hid hg0
  have hbig := fun v hv => Lib.hid (big8 A0 n0 c0 w v hv hm0)
  cases hlv : decide (4096 < n0) with
  | true =>
    replace hbig := hbig _ hlv
    clear hlv P0
    go_enter Try.func3, Try.ntmps3
    go_wp2_with fail
    refine hbig.out.mono ?_
    rintro e w' ⟨rfl, rfl⟩
    go_wp2
    go_ret
    exact ⟨rfl, Below.refl _ _⟩
  | false =>
    replace hbig := hbig _ hlv
    replace hm0 := Lib.hid hm0
    clear hlv
    go_enter Try.func3, Try.ntmps3
    go_wp2_with fail
    refine hbig.out.mono ?_
    rintro e w' ⟨rfl, rfl⟩
    clear hbig
    have hB := Lib.hid (Below.refl w.heap.size w)
    replace P0 := Lib.hid P0
    have hcc := Lib.hid (dset_any A0 n0 c0 xs0 _ hm0.out P0.out hg0.out)
    go_wp2_with fail
    refine hcc.out.mono ?_
    rintro e w1 ⟨A1, n1, c1, ps, m, rfl, hn1, hc1, hI1, hg1, hx1, hb1⟩
    clear hcc
    replace P0 := Lib.hid (P0.out.below hb1)
    replace hB := Lib.hid (hB.out.step hb1)
    clear hb1
    replace hI1 := Lib.hid hI1
    replace hg1 := Lib.hid hg1
    replace hx1 := Lib.hid hx1
    replace hn1 : n1 ≤ 1048576 := by omega
    have hcc := Lib.hid (set8_implC A1 n1 c1 ps m _ hI1.out hn1 hc1)
    go_wp2_with fail
    refine hcc.out.mono ?_
    rintro e w2 ⟨A2, n2, c2, rfl, hn2, hc2, hO2, hb2⟩
    clear hcc
    replace P0 := Lib.hid (P0.out.below hb2)
    replace hI1 := Lib.hid (hI1.out.below hb2)
    replace hB := Lib.hid (hB.out.step hb2)
    clear hb2
    have hI2 := Lib.hid hO2.srow
    clear hO2
    have hcc := Lib.hid (set8_spec A1 n1 c1 ps m _ hI1.out hn1 hg1.out hx1.out)
    go_wp2_with fail
    refine hcc.out.mono ?_
    rintro e w3 ⟨A3, n3, c3, rfl, hn3, hO3, hb3⟩
    clear hcc
    replace P0 := Lib.hid (P0.out.below hb3)
    replace hI1 := Lib.hid (hI1.out.below hb3)
    replace hI2 := Lib.hid (hI2.out.below hb3)
    replace hB := Lib.hid (hB.out.step hb3)
    clear hb3
    have hI3 := Lib.hid hO3.srow
    clear hO3
    obtain rfl : n3 = n2 := ints_same hI2.out hI3.out
    have hcc := Lib.hid (dclear_any A0 n0 c0 xs0 _ hm0.out P0.out hg0.out)
    go_wp2_with fail
    refine hcc.out.mono ?_
    rintro e w4 ⟨A4, n4, c4, qs, p, rfl, hn4, hc4, hI4, hg4, hx4, hb4⟩
    clear hcc
    replace P0 := Lib.hid (P0.out.below hb4)
    replace hI1 := Lib.hid (hI1.out.below hb4)
    replace hI2 := Lib.hid (hI2.out.below hb4)
    replace hI3 := Lib.hid (hI3.out.below hb4)
    replace hB := Lib.hid (hB.out.step hb4)
    clear hb4
    replace hI4 := Lib.hid hI4
    replace hg4 := Lib.hid hg4
    replace hx4 := Lib.hid hx4
    replace hn4 : n4 ≤ 1048576 := by omega
    have hcc := Lib.hid (clear8_implC A4 n4 c4 qs p _ hI4.out hn4 hc4)
    go_wp2_with fail
    refine hcc.out.mono ?_
    rintro e w5 ⟨A5, n5, c5, rfl, hn5, hc5, hO5, hb5⟩
    clear hcc
    replace P0 := Lib.hid (P0.out.below hb5)
    replace hI1 := Lib.hid (hI1.out.below hb5)
    replace hI2 := Lib.hid (hI2.out.below hb5)
    replace hI3 := Lib.hid (hI3.out.below hb5)
    replace hI4 := Lib.hid (hI4.out.below hb5)
    replace hB := Lib.hid (hB.out.step hb5)
    clear hb5
    have hI5 := Lib.hid hO5.srow
    clear hO5
    have hcc := Lib.hid (clear8_spec A4 n4 c4 qs p _ hI4.out hn4 hg4.out hx4.out)
    go_wp2_with fail
    refine hcc.out.mono ?_
    rintro e w6 ⟨A6, n6, c6, rfl, hn6, hO6, hb6⟩
    clear hcc
    replace P0 := Lib.hid (P0.out.below hb6)
    replace hI1 := Lib.hid (hI1.out.below hb6)
    replace hI2 := Lib.hid (hI2.out.below hb6)
    replace hI3 := Lib.hid (hI3.out.below hb6)
    replace hI4 := Lib.hid (hI4.out.below hb6)
    replace hI5 := Lib.hid (hI5.out.below hb6)
    replace hB := Lib.hid (hB.out.step hb6)
    clear hb6
    have hI6 := Lib.hid hO6.srow
    clear hO6
    obtain rfl : n6 = n5 := ints_same hI5.out hI6.out
    have hcc := Lib.hid (dnext_any A0 n0 c0 xs0 _ hm0.out P0.out hg0.out)
    go_wp2_with fail
    refine hcc.out.mono ?_
    rintro e w7 ⟨A7, n7, c7, rs, q, rfl, hn7, hc7, hI7, hg7, hx7, hb7⟩
    clear hcc
    replace P0 := Lib.hid (P0.out.below hb7)
    replace hI1 := Lib.hid (hI1.out.below hb7)
    replace hI2 := Lib.hid (hI2.out.below hb7)
    replace hI3 := Lib.hid (hI3.out.below hb7)
    replace hI4 := Lib.hid (hI4.out.below hb7)
    replace hI5 := Lib.hid (hI5.out.below hb7)
    replace hI6 := Lib.hid (hI6.out.below hb7)
    replace hB := Lib.hid (hB.out.step hb7)
    clear hb7
    replace hI7 := Lib.hid hI7
    replace hg7 := Lib.hid hg7
    replace hx7 := Lib.hid hx7
    replace hn7 : n7 ≤ 1048576 := by omega
    clear P0
    have hcc := Lib.hid (next8_impl A7 n7 c7 rs q _ hI7.out hn7 hg7.out hx7.out)
    go_wp2_with fail
    refine hcc.out.mono ?_
    rintro e w8 ⟨rfl, hb8⟩
    clear hcc
    replace hI1 := Lib.hid (hI1.out.below hb8)
    replace hI2 := Lib.hid (hI2.out.below hb8)
    replace hI3 := Lib.hid (hI3.out.below hb8)
    replace hI4 := Lib.hid (hI4.out.below hb8)
    replace hI5 := Lib.hid (hI5.out.below hb8)
    replace hI6 := Lib.hid (hI6.out.below hb8)
    replace hI7 := Lib.hid (hI7.out.below hb8)
    replace hB := Lib.hid (hB.out.step hb8)
    clear hb8
    have hcc := Lib.hid (next8_spec A7 n7 c7 rs q _ hI7.out hn7 hg7.out hx7.out)
    go_wp2_with fail
    refine hcc.out.mono ?_
    rintro e w9 ⟨rfl, hb9⟩
    clear hcc
    replace hI1 := Lib.hid (hI1.out.below hb9)
    replace hI2 := Lib.hid (hI2.out.below hb9)
    replace hI3 := Lib.hid (hI3.out.below hb9)
    replace hI4 := Lib.hid (hI4.out.below hb9)
    replace hI5 := Lib.hid (hI5.out.below hb9)
    replace hI6 := Lib.hid (hI6.out.below hb9)
    replace hI7 := Lib.hid (hI7.out.below hb9)
    replace hB := Lib.hid (hB.out.step hb9)
    clear hb9
    have hnx := Lib.hid (next_is (ps := rs) (m := q))
    have hsc := Lib.hid (set_clear (ps := ps) (m := m))
    have hcs := Lib.hid (clear_set (ps := qs) (m := p))
    have hcg := Lib.hid (clear_good (m := p) hg4.out)
    have hr1 := Lib.hid (fun W (hW : Ints W A1 n1 ps) => rt_implV A1 n1 c1 ps rfl W hW hn1)
    have hr2 := Lib.hid (fun W (hW : Ints W A1 n1 ps) => rt_specV A1 n1 c1 ps rfl W hW hn1)
    have hv1 := Lib.hid (fun W (hW : Ints W A1 n1 ps) => vr_implV A1 n1 c1 ps rfl W hW hn1)
    have hv2 := Lib.hid (fun W (hW : Ints W A1 n1 ps) => vr_specV A1 n1 c1 ps rfl W hW hn1)
    have hsr := Lib.hid (fun W (hW : Ints W A5 n6 (clearR qs p).1) => set8_implC A5 n6 c5 (clearR qs p).1 p W hW hn5 hc5)
    have hcr := Lib.hid (fun W (hW : Ints W A2 n3 (setR ps m).1) => clear8_implC A2 n3 c2 (setR ps m).1 m W hW hn2 hc2)
    generalize hS : setR ps m = S at *
    generalize hC : clearR qs p = C at *
    generalize hN : nextR rs q = N at *
    obtain ⟨sl, sc⟩ := S
    obtain ⟨cl, cc⟩ := C
    obtain ⟨nv, nc⟩ := N
    replace hS := Lib.hid hS
    replace hC := Lib.hid hC
    replace hN := Lib.hid hN
    generalize rackTx ps = T at *
    generalize rackB ps = V at *
    dsimp only at *
    have e1 : (sc != sc) = false := by simp
    have e2 : (cc != cc) = false := by simp
    have e3 : (nc != nc) = false := by simp
    have e4 : (nv != nv) = false := by simp
    have e6 : (V != V) = false := by simp
    have e8 : (V == V) = true := by simp
    have hcc := Lib.hid (f6ints_any A2 A3 n3 c2 c3 sl _ hI2.out hI3.out hn2)
    go_wp2_with fail
    refine hcc.out.mono ?_
    rintro e w10 ⟨rfl, hb10⟩
    clear hcc
    replace hI1 := Lib.hid (hI1.out.below hb10)
    replace hI2 := Lib.hid (hI2.out.below hb10)
    replace hI3 := Lib.hid (hI3.out.below hb10)
    replace hI4 := Lib.hid (hI4.out.below hb10)
    replace hI5 := Lib.hid (hI5.out.below hb10)
    replace hI6 := Lib.hid (hI6.out.below hb10)
    replace hI7 := Lib.hid (hI7.out.below hb10)
    replace hB := Lib.hid (hB.out.step hb10)
    clear hb10
    clear hI3
    have hcc := Lib.hid (f6ints_any A5 A6 n6 c5 c6 cl _ hI5.out hI6.out hn5)
    go_wp2_with fail
    refine hcc.out.mono ?_
    rintro e w11 ⟨rfl, hb11⟩
    clear hcc
    replace hI1 := Lib.hid (hI1.out.below hb11)
    replace hI2 := Lib.hid (hI2.out.below hb11)
    replace hI4 := Lib.hid (hI4.out.below hb11)
    replace hI5 := Lib.hid (hI5.out.below hb11)
    replace hI6 := Lib.hid (hI6.out.below hb11)
    replace hI7 := Lib.hid (hI7.out.below hb11)
    replace hB := Lib.hid (hB.out.step hb11)
    clear hb11
    clear hI6
    have hcc := Lib.hid (hr1.out _ hI1.out)
    go_wp2_with fail
    refine hcc.out.mono ?_
    rintro e w12 ⟨rfl, hb12⟩
    clear hcc
    replace hI1 := Lib.hid (hI1.out.below hb12)
    replace hI2 := Lib.hid (hI2.out.below hb12)
    replace hI4 := Lib.hid (hI4.out.below hb12)
    replace hI5 := Lib.hid (hI5.out.below hb12)
    replace hI7 := Lib.hid (hI7.out.below hb12)
    replace hB := Lib.hid (hB.out.step hb12)
    clear hb12
    have hcc := Lib.hid (hr2.out _ hI1.out)
    go_wp2_with fail
    refine hcc.out.mono ?_
    rintro e w13 ⟨rfl, hb13⟩
    clear hcc
    replace hI1 := Lib.hid (hI1.out.below hb13)
    replace hI2 := Lib.hid (hI2.out.below hb13)
    replace hI4 := Lib.hid (hI4.out.below hb13)
    replace hI5 := Lib.hid (hI5.out.below hb13)
    replace hI7 := Lib.hid (hI7.out.below hb13)
    replace hB := Lib.hid (hB.out.step hb13)
    clear hb13
    have hcc := Lib.hid (hv1.out _ hI1.out)
    go_wp2_with fail
    refine hcc.out.mono ?_
    rintro e w14 ⟨rfl, hb14⟩
    clear hcc
    replace hI1 := Lib.hid (hI1.out.below hb14)
    replace hI2 := Lib.hid (hI2.out.below hb14)
    replace hI4 := Lib.hid (hI4.out.below hb14)
    replace hI5 := Lib.hid (hI5.out.below hb14)
    replace hI7 := Lib.hid (hI7.out.below hb14)
    replace hB := Lib.hid (hB.out.step hb14)
    clear hb14
    have hcc := Lib.hid (hv2.out _ hI1.out)
    go_wp2_with fail
    refine hcc.out.mono ?_
    rintro e w15 ⟨rfl, hb15⟩
    clear hcc
    replace hI1 := Lib.hid (hI1.out.below hb15)
    replace hI2 := Lib.hid (hI2.out.below hb15)
    replace hI4 := Lib.hid (hI4.out.below hb15)
    replace hI5 := Lib.hid (hI5.out.below hb15)
    replace hI7 := Lib.hid (hI7.out.below hb15)
    replace hB := Lib.hid (hB.out.step hb15)
    clear hb15
    clear hr1 hr2 hv1 hv2 e1 e2 e3 e4 e6 e8
    by_cases hz3 : nc = 0
    · have x1 : (nc == 0) = true := beq_iff_eq.2 hz3
      have x2 : (nc != 0) = false := by simp [hz3]
      obtain ⟨hq1, hq2, hq3⟩ := hnx.out hz3
      have x3 : decide (nv ≤ q) = false := decide_eq_false (by omega)
      replace hz3 := Lib.hid hz3
      replace hq1 := Lib.hid hq1
      replace hq3 := Lib.hid hq3
      have hhas := Lib.hid (fun W (hW : Ints W A7 n7 rs) => f6has_any A7 n7 c7 rs nv hq2 W hW hn7)
      clear hq2
      go_wp2_with fail
      refine (hhas.out _ hI7.out).mono ?_
      rintro e w16 ⟨rfl, rfl⟩
      go_wp2
      go_loopw [21] (fun i wr => ∃ k : Nat, k ≤ n7 ∧ i = .int .i64 k ∧ w15 = wr) (fun i _ => n7 - (intOf i).toNat)
      case atStart => exact ⟨0, by omega, rfl, rfl⟩
      case round =>
        obtain ⟨k, hk, rfl, rfl⟩ := hrel
        by_cases hlt : k < n7
        · obtain ⟨b, off, y, rfl, hbb, hy, d0⟩ := int_at hI7.out hlt
          have hk0 : (0 : Int) ≤ (k : Int) := Int.natCast_nonneg _
          have hk1 : (k : Int) < (n7 : Int) := by omega
          have hyy := hq3.out y (List.mem_of_getElem? hy.out)
          by_cases hqy : q < y
          · have g1 : decide (q < y) = true := decide_eq_true hqy
            have g2 : decide (y < nv) = false := decide_eq_false (fun h => hyy ⟨hqy, h⟩)
            clear hyy
            go_wp2
            go_roundw
            case rel => exact ⟨k + 1, by omega, by go_num, trivial⟩
            case measure => simp [intOf]; omega
          · have g1 : decide (q < y) = false := decide_eq_false hqy
            clear hyy
            go_wp2
            go_roundw
            case rel => exact ⟨k + 1, by omega, by go_num, trivial⟩
            case measure => simp [intOf]; omega
        · obtain rfl : k = n7 := by omega
          clear hI7 hg7
          by_cases hz2 : cc = 0
          · have y1 : (cc == 0) = true := beq_iff_eq.2 hz2
            have y2 : (cc != 0) = false := by simp [hz2]
            have hagain : setR cl p = (qs, 0) := hcs.out hz2
            have hcall := hsr.out _ hI5.out
            rw [hagain] at hcall
            replace hagain := Lib.hid hagain
            replace hz2 := Lib.hid hz2
            replace hcall := Lib.hid hcall
            have hcc := Lib.hid (hcall.out)
            go_wp2_with fail
            refine hcc.out.mono ?_
            rintro e w18 ⟨A18, n18, c18, rfl, hn18, hc18, hO18, hb18⟩
            clear hcc
            replace hI1 := Lib.hid (hI1.out.below hb18)
            replace hI2 := Lib.hid (hI2.out.below hb18)
            replace hI4 := Lib.hid (hI4.out.below hb18)
            replace hI5 := Lib.hid (hI5.out.below hb18)
            replace hB := Lib.hid (hB.out.step hb18)
            clear hb18
            have hI18 := Lib.hid hO18.srow
            clear hO18
            obtain rfl : n4 = n18 := ints_same hI18.out hI4.out
            have hcc := Lib.hid (f6ints_any A18 A4 n4 c18 c4 qs _ hI18.out hI4.out hn4)
            go_wp2_with fail
            refine hcc.out.mono ?_
            rintro e w19 ⟨rfl, hb19⟩
            clear hcc
            replace hI1 := Lib.hid (hI1.out.below hb19)
            replace hI2 := Lib.hid (hI2.out.below hb19)
            replace hI4 := Lib.hid (hI4.out.below hb19)
            replace hI5 := Lib.hid (hI5.out.below hb19)
            replace hI18 := Lib.hid (hI18.out.below hb19)
            replace hB := Lib.hid (hB.out.step hb19)
            clear hb19
            clear hI18 hI4 hI5 hcall
            by_cases hz1 : sc = 0
            · have z1 : (sc == 0) = true := beq_iff_eq.2 hz1
              have z2 : (sc != 0) = false := by simp [hz1]
              have hback : clearR sl m = (ps, 0) := hsc.out hz1
              have hcall := hcr.out _ hI2.out
              rw [hback] at hcall
              replace hback := Lib.hid hback
              replace hz1 := Lib.hid hz1
              replace hcall := Lib.hid hcall
              have hcc := Lib.hid (hcall.out)
              go_wp2_with fail
              refine hcc.out.mono ?_
              rintro e w21 ⟨A21, n21, c21, rfl, hn21, hc21, hO21, hb21⟩
              clear hcc
              replace hI1 := Lib.hid (hI1.out.below hb21)
              replace hI2 := Lib.hid (hI2.out.below hb21)
              replace hB := Lib.hid (hB.out.step hb21)
              clear hb21
              have hI21 := Lib.hid hO21.srow
              clear hO21
              obtain rfl : n1 = n21 := ints_same hI21.out hI1.out
              have hcc := Lib.hid (f6ints_any A21 A1 n1 c21 c1 ps _ hI21.out hI1.out hn1)
              go_wp2_with fail
              refine hcc.out.mono ?_
              rintro e w22 ⟨rfl, hb22⟩
              clear hcc
              replace hI1 := Lib.hid (hI1.out.below hb22)
              replace hI2 := Lib.hid (hI2.out.below hb22)
              replace hI21 := Lib.hid (hI21.out.below hb22)
              replace hB := Lib.hid (hB.out.step hb22)
              clear hb22
              go_wp2
              go_ret
              exact ⟨rfl, hB.out⟩
            · have z1 : (sc == 0) = false := beq_eq_false_iff_ne.2 hz1
              have z2 : (sc != 0) = true := by simp [hz1]
              replace hz1 := Lib.hid hz1
              go_wp2
              go_ret
              exact ⟨rfl, hB.out⟩
          · have y1 : (cc == 0) = false := beq_eq_false_iff_ne.2 hz2
            have y2 : (cc != 0) = true := by simp [hz2]
            replace hz2 := Lib.hid hz2
            by_cases hz1 : sc = 0
            · have z1 : (sc == 0) = true := beq_iff_eq.2 hz1
              have z2 : (sc != 0) = false := by simp [hz1]
              have hback : clearR sl m = (ps, 0) := hsc.out hz1
              have hcall := hcr.out _ hI2.out
              rw [hback] at hcall
              replace hback := Lib.hid hback
              replace hz1 := Lib.hid hz1
              replace hcall := Lib.hid hcall
              have hcc := Lib.hid (hcall.out)
              go_wp2_with fail
              refine hcc.out.mono ?_
              rintro e w21 ⟨A21, n21, c21, rfl, hn21, hc21, hO21, hb21⟩
              clear hcc
              replace hI1 := Lib.hid (hI1.out.below hb21)
              replace hI2 := Lib.hid (hI2.out.below hb21)
              replace hI4 := Lib.hid (hI4.out.below hb21)
              replace hI5 := Lib.hid (hI5.out.below hb21)
              replace hB := Lib.hid (hB.out.step hb21)
              clear hb21
              have hI21 := Lib.hid hO21.srow
              clear hO21
              obtain rfl : n1 = n21 := ints_same hI21.out hI1.out
              have hcc := Lib.hid (f6ints_any A21 A1 n1 c21 c1 ps _ hI21.out hI1.out hn1)
              go_wp2_with fail
              refine hcc.out.mono ?_
              rintro e w22 ⟨rfl, hb22⟩
              clear hcc
              replace hI1 := Lib.hid (hI1.out.below hb22)
              replace hI2 := Lib.hid (hI2.out.below hb22)
              replace hI4 := Lib.hid (hI4.out.below hb22)
              replace hI5 := Lib.hid (hI5.out.below hb22)
              replace hI21 := Lib.hid (hI21.out.below hb22)
              replace hB := Lib.hid (hB.out.step hb22)
              clear hb22
              go_wp2
              go_ret
              exact ⟨rfl, hB.out⟩
            · have z1 : (sc == 0) = false := beq_eq_false_iff_ne.2 hz1
              have z2 : (sc != 0) = true := by simp [hz1]
              replace hz1 := Lib.hid hz1
              go_wp2
              go_ret
              exact ⟨rfl, hB.out⟩
    · have x1 : (nc == 0) = false := beq_eq_false_iff_ne.2 hz3
      have x2 : (nc != 0) = true := by simp [hz3]
      replace hz3 := Lib.hid hz3
      by_cases hz2 : cc = 0
      · have y1 : (cc == 0) = true := beq_iff_eq.2 hz2
        have y2 : (cc != 0) = false := by simp [hz2]
        have hagain : setR cl p = (qs, 0) := hcs.out hz2
        have hcall := hsr.out _ hI5.out
        rw [hagain] at hcall
        replace hagain := Lib.hid hagain
        replace hz2 := Lib.hid hz2
        replace hcall := Lib.hid hcall
        have hcc := Lib.hid (hcall.out)
        go_wp2_with fail
        refine hcc.out.mono ?_
        rintro e w18 ⟨A18, n18, c18, rfl, hn18, hc18, hO18, hb18⟩
        clear hcc
        replace hI1 := Lib.hid (hI1.out.below hb18)
        replace hI2 := Lib.hid (hI2.out.below hb18)
        replace hI4 := Lib.hid (hI4.out.below hb18)
        replace hI5 := Lib.hid (hI5.out.below hb18)
        replace hI7 := Lib.hid (hI7.out.below hb18)
        replace hB := Lib.hid (hB.out.step hb18)
        clear hb18
        have hI18 := Lib.hid hO18.srow
        clear hO18
        obtain rfl : n4 = n18 := ints_same hI18.out hI4.out
        have hcc := Lib.hid (f6ints_any A18 A4 n4 c18 c4 qs _ hI18.out hI4.out hn4)
        go_wp2_with fail
        refine hcc.out.mono ?_
        rintro e w19 ⟨rfl, hb19⟩
        clear hcc
        replace hI1 := Lib.hid (hI1.out.below hb19)
        replace hI2 := Lib.hid (hI2.out.below hb19)
        replace hI4 := Lib.hid (hI4.out.below hb19)
        replace hI5 := Lib.hid (hI5.out.below hb19)
        replace hI7 := Lib.hid (hI7.out.below hb19)
        replace hI18 := Lib.hid (hI18.out.below hb19)
        replace hB := Lib.hid (hB.out.step hb19)
        clear hb19
        clear hI18 hI4 hI5 hcall
        by_cases hz1 : sc = 0
        · have z1 : (sc == 0) = true := beq_iff_eq.2 hz1
          have z2 : (sc != 0) = false := by simp [hz1]
          have hback : clearR sl m = (ps, 0) := hsc.out hz1
          have hcall := hcr.out _ hI2.out
          rw [hback] at hcall
          replace hback := Lib.hid hback
          replace hz1 := Lib.hid hz1
          replace hcall := Lib.hid hcall
          have hcc := Lib.hid (hcall.out)
          go_wp2_with fail
          refine hcc.out.mono ?_
          rintro e w21 ⟨A21, n21, c21, rfl, hn21, hc21, hO21, hb21⟩
          clear hcc
          replace hI1 := Lib.hid (hI1.out.below hb21)
          replace hI2 := Lib.hid (hI2.out.below hb21)
          replace hI7 := Lib.hid (hI7.out.below hb21)
          replace hB := Lib.hid (hB.out.step hb21)
          clear hb21
          have hI21 := Lib.hid hO21.srow
          clear hO21
          obtain rfl : n1 = n21 := ints_same hI21.out hI1.out
          have hcc := Lib.hid (f6ints_any A21 A1 n1 c21 c1 ps _ hI21.out hI1.out hn1)
          go_wp2_with fail
          refine hcc.out.mono ?_
          rintro e w22 ⟨rfl, hb22⟩
          clear hcc
          replace hI1 := Lib.hid (hI1.out.below hb22)
          replace hI2 := Lib.hid (hI2.out.below hb22)
          replace hI7 := Lib.hid (hI7.out.below hb22)
          replace hI21 := Lib.hid (hI21.out.below hb22)
          replace hB := Lib.hid (hB.out.step hb22)
          clear hb22
          go_wp2
          go_ret
          exact ⟨rfl, hB.out⟩
        · have z1 : (sc == 0) = false := beq_eq_false_iff_ne.2 hz1
          have z2 : (sc != 0) = true := by simp [hz1]
          replace hz1 := Lib.hid hz1
          go_wp2
          go_ret
          exact ⟨rfl, hB.out⟩
      · have y1 : (cc == 0) = false := beq_eq_false_iff_ne.2 hz2
        have y2 : (cc != 0) = true := by simp [hz2]
        replace hz2 := Lib.hid hz2
        by_cases hz1 : sc = 0
        · have z1 : (sc == 0) = true := beq_iff_eq.2 hz1
          have z2 : (sc != 0) = false := by simp [hz1]
          have hback : clearR sl m = (ps, 0) := hsc.out hz1
          have hcall := hcr.out _ hI2.out
          rw [hback] at hcall
          replace hback := Lib.hid hback
          replace hz1 := Lib.hid hz1
          replace hcall := Lib.hid hcall
          have hcc := Lib.hid (hcall.out)
          go_wp2_with fail
          refine hcc.out.mono ?_
          rintro e w21 ⟨A21, n21, c21, rfl, hn21, hc21, hO21, hb21⟩
          clear hcc
          replace hI1 := Lib.hid (hI1.out.below hb21)
          replace hI2 := Lib.hid (hI2.out.below hb21)
          replace hI4 := Lib.hid (hI4.out.below hb21)
          replace hI5 := Lib.hid (hI5.out.below hb21)
          replace hI7 := Lib.hid (hI7.out.below hb21)
          replace hB := Lib.hid (hB.out.step hb21)
          clear hb21
          have hI21 := Lib.hid hO21.srow
          clear hO21
          obtain rfl : n1 = n21 := ints_same hI21.out hI1.out
          have hcc := Lib.hid (f6ints_any A21 A1 n1 c21 c1 ps _ hI21.out hI1.out hn1)
          go_wp2_with fail
          refine hcc.out.mono ?_
          rintro e w22 ⟨rfl, hb22⟩
          clear hcc
          replace hI1 := Lib.hid (hI1.out.below hb22)
          replace hI2 := Lib.hid (hI2.out.below hb22)
          replace hI4 := Lib.hid (hI4.out.below hb22)
          replace hI5 := Lib.hid (hI5.out.below hb22)
          replace hI7 := Lib.hid (hI7.out.below hb22)
          replace hI21 := Lib.hid (hI21.out.below hb22)
          replace hB := Lib.hid (hB.out.step hb22)
          clear hb22
          go_wp2
          go_ret
          exact ⟨rfl, hB.out⟩
        · have z1 : (sc == 0) = false := beq_eq_false_iff_ne.2 hz1
          have z2 : (sc != 0) = true := by simp [hz1]
          replace hz1 := Lib.hid hz1
          go_wp2
          go_ret
          exact ⟨rfl, hB.out⟩
end Go.Proofs.Ytlmjoekiflnjgaa
