/- The law on arrangements as one call: for every input it returns true. -/
import Derived.Test.YtbhiimleagldgaaArP0
import Derived.Test.YtbhiimleagldgaaArCap
import Derived.Test.YtbhiimleagldgaaDraw5b
import Derived.Test.YtbhiimleagldgaaDraw3
namespace Go.Proofs.Ytbhiimleagldgaa
open Go.RowKit
set_option linter.unusedVariables false
set_option linter.unusedSimpArgs false

theorem a2long_two (A B : Option Addr) (n c m d : Nat) (w : World) (hn : n ≤ maxLen) (hm : m ≤ maxLen) (v : Bool) (hv : (decide (3000 < n) || decide (3000 < m)) = v) :
    Calls Try.prog 5 #[.slice A n c, .slice B m d] w fun e w' => e = .returned (.bool v) ∧ w = w' := by
  unfold maxLen at hn hm
  by_cases h1 : 3000 < n
  · have g1 : decide ((3000 : Int) < (n : Int)) = true := decide_eq_true (by omega)
    have hr : Hid (v = true) := Lib.hid (by rw [← hv, decide_eq_true h1, Bool.true_or])
    clear hv
    go_enter Try.func5, Try.ntmps5
    go_wp2
    go_ret
    exact ⟨ret_bo hr.out.symm, rfl⟩
  · have g1 : decide ((3000 : Int) < (n : Int)) = false := decide_eq_false (by omega)
    have hr : Hid (v = decide ((3000 : Int) < (m : Int))) := Lib.hid (by
      rw [← hv, decide_eq_false h1, Bool.false_or]
      apply decide_eq_decide.2
      omega)
    clear hv
    go_enter Try.func5, Try.ntmps5
    go_wp2
    go_ret
    exact ⟨ret_bo hr.out.symm, rfl⟩
set_option maxHeartbeats 800000 in
theorem a2same_any (A B : Option Addr) (n c d : Nat) (xs : List Int) (w : World) (hA : Ints w A n xs) (hB : Ints w B n xs) (hn : n ≤ 1048576) :
    Calls Try.prog 15 #[.slice A n c, .slice B n d] w fun e w' => e = .returned (.bool true) ∧ Below w.heap.size w w' := by
  go_enter Try.func15, Try.ntmps15
  go_wp2
  go_loopw [5] (fun i wr => ∃ k : Nat, k ≤ n ∧ i = .int .i64 k ∧ Below w.heap.size w wr) (fun i _ => n - (intOf i).toNat)
  case atStart => exact ⟨0, by omega, rfl, Below.refl _ _⟩
  case round =>
    obtain ⟨k, hk, rfl, hbw⟩ := hrel
    by_cases hlt : k < n
    · obtain ⟨b, off, x, rfl, hb, hx, c0⟩ := int_at (hA.below hbw) hlt
      obtain ⟨b', off', y, rfl, hb', hy, d0⟩ := int_at (hB.below hbw) hlt
      obtain rfl : x = y := by have h1 := hx.out; have h2 := hy.out; rw [h1] at h2; exact Option.some.inj h2
      have hk0 : (0 : Int) ≤ (k : Int) := Int.natCast_nonneg _
      have hk1 : (k : Int) < (n : Int) := by omega
      have e1 : (x == x) = true := beq_self_eq_true x
      have e2 : (x != x) = false := by simp
      go_wp2_with fail
      go_quiet (fail)
      go_wp2
      go_roundw
      case rel => exact ⟨k + 1, by omega, by go_num, below_drewN hbw _⟩
      case measure => simp [intOf]; omega
    · obtain rfl : k = n := by omega
      go_wp2
      go_ret
      exact ⟨rfl, hbw⟩

theorem good_basket {b : BasketD} (h : basketOk b = true) : b.good := by
  rw [basketOk_iff] at h
  unfold BasketD.good
  simp [Lit.wf, IntKind.min, IntKind.max, IntKind.signed, IntKind.bits]
  omega
theorem good_pairs {T : List (List Int)} (h : pairsOk T = true) : ∀ xs ∈ T, issGood xs := fun xs hxs x hx => by
  obtain ⟨i, hi, rfl⟩ := List.getElem_of_mem hxs
  obtain ⟨k, hk, rfl⟩ := List.getElem_of_mem hx
  have := ((pairsOk_iff.1 h).2 i _ (List.getElem?_eq_getElem hi)).2 k _ (List.getElem?_eq_getElem hk)
  simp [intGood, Lit.wf, IntKind.min, IntKind.max, IntKind.signed, IntKind.bits]
  omega
theorem wf_nat {n : Nat} (h : n ≤ 1000) : (Lit.int .i64 (n : Int)).wf = true := by
  simp [Lit.wf, IntKind.min, IntKind.max, IntKind.signed, IntKind.bits]
  omega
section
variable {b : BasketD} {A : Option Addr} {n c : Nat} {T : List (List Int)} {B : Option Addr} {d : Nat} {ps : List Int} {w : World}
def LsOut (n : Nat) (ps : List Int) (w : World) (e : Ending) (w' : World) : Prop := ∃ A c, e = .returned (.tuple #[.slice A n c, .int .i64 0]) ∧ n ≤ c ∧ Ints w' A n ps ∧ Below w.heap.size w w'
theorem LsOut.of {P : Program} {f : FuncId} {args : Array Value} (h : Calls P f args w (SwOutC (ps, 0) w)) (hl : ps.length = n) : Calls P f args w (LsOut n ps w) :=
  h.mono fun e w' ⟨A, m, c, he, h1, h2, h3, h4⟩ => by
    have hm : m = n := by rw [← hl]; exact h3.1.symm
    subst hm
    exact ⟨A, c, he, h2, h3.srow, h4⟩
theorem ac_use {C : Int} (hb : basketOk b = true) (hT : pairsOk T = true) (hq : placesOk b ps = true) (hl : ps.length = T.length) (hC : costI b T ps = C) (h : IntSS w A n T) (hn : n ≤ 1048576) (hp : Ints w B n ps) (hd : n ≤ d) :
    Calls Try.prog 9 #[.agg #[.int .i64 b.bars, .int .i64 b.rise, .int .i64 b.fall, .int .i64 b.clear, .int .i64 b.near], .slice A n c, .slice B n d] w fun e w' => e = .returned (.tuple #[.int .i64 C, .int .i64 0]) ∧ Below w.heap.size w w' := by
  have h1 := ac_implC b A n c T B n d ps w (good_basket hb) h hn (good_pairs hT) hp hn hd
  rw [arrangeCost, if_pos (arrCode_good hb hT hq hl), hC] at h1
  exact h1
theorem ab_use {C : Int} (hb : basketOk b = true) (hT : pairsOk T = true) (hC : boundTo b T T.length = C) (h : IntSS w A n T) (hn : n ≤ 1048576) :
    Calls Try.prog 10 #[.agg #[.int .i64 b.bars, .int .i64 b.rise, .int .i64 b.fall, .int .i64 b.clear, .int .i64 b.near], .slice A n c] w fun e w' => e = .returned (.tuple #[.int .i64 C, .int .i64 0]) ∧ Below w.heap.size w w' := by
  have h1 := ab_impl b A n c T w (good_basket hb) h hn (good_pairs hT)
  have h2 : boundOf b T = (boundTo b T T.length, 0) := by rw [boundOf, hb, hT]; rfl
  rw [h2, hC] at h1
  exact h1
theorem mir_use (hb : basketOk b = true) (hq : placesOk b ps = true) (hn : n ≤ 1048576) (hp : Ints w B n ps) (hd : n ≤ d) :
    Calls Try.prog 11 #[.agg #[.int .i64 b.bars, .int .i64 b.rise, .int .i64 b.fall, .int .i64 b.clear, .int .i64 b.near], .slice B n d] w (LsOut n (mirL b ps) w) := by
  have h1 := mir_implC b B n d ps w (good_basket hb) hp hn hd
  rw [mirrorArrange, if_pos (plCode_0 hb hq)] at h1
  exact LsOut.of h1 (by rw [mirL_length, hp.1])
theorem im_use (hb : basketOk b = true) (hT : pairsOk T = true) (hq : placesOk b ps = true) (hl : ps.length = T.length) (h : IntSS w A n T) (hn : n ≤ 1048576) (hp : Ints w B n ps) (hd : n ≤ d) :
    Calls Try.prog 12 #[.agg #[.int .i64 b.bars, .int .i64 b.rise, .int .i64 b.fall, .int .i64 b.clear, .int .i64 b.near], .slice A n c, .slice B n d] w (LsOut n (improveL b T ps) w) := by
  have h1 := im_implC b A n c T B n d ps w (good_basket hb) h hn (good_pairs hT) hp hn hd
  rw [improveOf, if_pos (arrCode_good hb hT hq hl)] at h1
  exact LsOut.of h1 (by rw [(improveL_all hb hT hq).2.1, hp.1])
theorem bs_none (hb : basketOk b = true) (hT : pairsOk T = true) (hq : placesOk b ps = true) (hl : ps.length = T.length) (ho : bestB b T ps = none) (h : IntSS w A n T) (hn : n ≤ 1048576) (hp : Ints w B n ps) (hd : n ≤ d) :
    Calls Try.prog 13 #[.agg #[.int .i64 b.bars, .int .i64 b.rise, .int .i64 b.fall, .int .i64 b.clear, .int .i64 b.near], .slice A n c, .slice B n d] w fun e w' => e = .returned (.tuple #[.int .i64 0, .int .i64 0, .int .i64 3]) ∧ Below w.heap.size w w' := by
  have h1 := bs_implC b A n c T B n d ps w (good_basket hb) h hn (good_pairs hT) hp hn hd
  have h2 : bestSwapOf b T ps = (0, 0, 3) := by rw [bestSwapOf, if_pos (arrCode_good hb hT hq hl), ho]
  rw [h2] at h1
  exact h1
theorem bs_some {i k : Nat} (hb : basketOk b = true) (hT : pairsOk T = true) (hq : placesOk b ps = true) (hl : ps.length = T.length) (ho : bestB b T ps = some (i, k)) (h : IntSS w A n T) (hn : n ≤ 1048576) (hp : Ints w B n ps) (hd : n ≤ d) :
    Calls Try.prog 13 #[.agg #[.int .i64 b.bars, .int .i64 b.rise, .int .i64 b.fall, .int .i64 b.clear, .int .i64 b.near], .slice A n c, .slice B n d] w fun e w' => e = .returned (.tuple #[.int .i64 (i : Int), .int .i64 (k : Int), .int .i64 0]) ∧ Below w.heap.size w w' := by
  have h1 := bs_implC b A n c T B n d ps w (good_basket hb) h hn (good_pairs hT) hp hn hd
  have h2 : bestSwapOf b T ps = ((i : Int), (k : Int), 0) := by rw [bestSwapOf, if_pos (arrCode_good hb hT hq hl), ho]
  rw [h2] at h1
  exact h1
theorem sw_use {i k : Nat} (hb : basketOk b = true) (hq : placesOk b ps = true) (hi : i < ps.length) (hk : k < ps.length) (hn : n ≤ 1048576) (hp : Ints w B n ps) (hd : n ≤ d) :
    Calls Try.prog 14 #[.agg #[.int .i64 b.bars, .int .i64 b.rise, .int .i64 b.fall, .int .i64 b.clear, .int .i64 b.near], .slice B n d, .int .i64 (i : Int), .int .i64 (k : Int)] w (LsOut n (swapL ps i k) w) := by
  have hl := (placesOk_len hq).2
  have h1 := sw_implC b B n d ps (i : Int) (k : Int) w (good_basket hb) hp hn hd (wf_nat (by omega)) (wf_nat (by omega))
  have h2 : swapLetters b ps (i : Int) (k : Int) = (swapL ps i k, 0) := by
    rw [swapLetters, if_pos (plCode_0 hb hq), if_pos]
    · rfl
    · rw [isIn_iff.2 (by omega), isIn_iff.2 (by omega)]; rfl
  rw [h2] at h1
  exact LsOut.of h1 (by rw [swapL_length, hp.1])
end

set_option maxRecDepth 100000 in
set_option maxHeartbeats 6400000 in
theorem fnArrangements_any (A0 : Option Addr) (n0 c0 : Nat) (xs0 : List Int) (A1 : Option Addr) (n1 c1 : Nat) (xs1 : List Int) (w : World) (h0 : n0 ≤ maxLen ∧ Bytes w A0 n0 xs0 ∧ ∀ x ∈ xs0, byteGood x) (h1 : n1 ≤ maxLen ∧ Bytes w A1 n1 xs1 ∧ ∀ x ∈ xs1, byteGood x) :
    Calls Try.prog 3 #[.slice A0 n0 c0, .slice A1 n1 c1] w fun e w' => e = .returned (.bool true) ∧ Below w.heap.size w w' := by
  obtain ⟨hm0, P0, hg0⟩ := h0
  obtain ⟨hm1, P1, hg1⟩ := h1
  have hlong := a2long_two A0 A1 n0 c0 n1 c1 w hm0 hm1 _ rfl
  have hba := Lib.hid (a2basket_any A0 n0 c0 xs0 w hm0 P0 hg0)
  cases hlv : (decide (3000 < n0) || decide (3000 < n1)) with
  | true =>
    rw [hlv] at hlong
    replace hlong := Lib.hid hlong
    clear hlv
    go_enter Try.func3, Try.ntmps3
    go_wp2_with fail
    refine hlong.out.mono ?_
    rintro e w' ⟨rfl, rfl⟩
    go_wp2
    go_ret
    exact ⟨rfl, Below.refl _ _⟩
  | false =>
    rw [hlv] at hlong
    replace hlong := Lib.hid hlong
    clear hlv
    go_enter Try.func3, Try.ntmps3
    go_wp2_with fail
    refine hlong.out.mono ?_
    rintro e w' ⟨rfl, rfl⟩
    go_wp2_with fail
    refine hba.out.mono ?_
    rintro e w1 ⟨b, rfl, hbok, h7, hb1⟩
    have hB0 := BRow.new w1 b.bars b.rise b.fall b.clear b.near
    have hbl0 := below_a1 w1 (.cells #[.int .i64 b.bars, .int .i64 b.rise, .int .i64 b.fall, .int .i64 b.clear, .int .i64 b.near] 25)
    have hpr := Lib.hid (a2pairs_any A1 n1 c1 xs1 _ hm1 ((P1.below hb1).below hbl0) hg1)
    have hd0 := hb1.step hbl0
    have hP0 := P0.below hd0
    clear hba hlong P0 P1 hg1 hm1
    go_wp2_with fail
    generalize w1.alloc (.cells #[.int .i64 b.bars, .int .i64 b.rise, .int .i64 b.fall, .int .i64 b.clear, .int .i64 b.near] 25) = w2 at *
    generalize w1.heap.size = R at *
    clear hb1 hbl0
    refine hpr.out.mono ?_
    rintro e w3 ⟨A, n, c, T, rfl, hn2, hn5, hcap, hI, hT, hb3⟩
    have hpl := Lib.hid (a2places_any A0 n0 c0 xs0 n w3 hm0 (hP0.below hb3) hg0 (by omega))
    have hB3 := hB0.below hb3
    have hd3 := hd0.step hb3
    clear hP0 hg0 hm0 hpr hB0 hd0 hb3
    go_wp2_with fail
    refine hpl.out.mono ?_
    rintro e w4 ⟨B, d, ys, rfl, hdn, hP, hperm, hb4⟩
    have hB4 := Lib.hid (hB3.below hb4)
    have hd4 := Lib.hid (hd3.step hb4)
    have hI4 := hI.below hb4
    have hTl := hI.len
    have hTok : pairsOk T = true := pairsOk_iff.2 ⟨by omega, fun i xs hx => by rw [hTl]; exact hT i xs hx⟩
    have hyl := hP.1
    have hyok : placesOk b ys = true := placesOk_iff.2 ⟨fun p hp => hasBar_iff.2 (by have := hperm.2.1 p hp; omega), hperm.2.2, by omega, by omega⟩
    have hyT : ys.length = T.length := by omega
    have hn : n ≤ 1048576 := by omega
    have hmok := mirL_ok hyok
    have hmT : (mirL b ys).length = T.length := by rw [mirL_length]; exact hyT
    have hmC : costI b T (mirL b ys) = costI b T ys := cost_mirror hyT
    obtain ⟨hiok, hiT, hile, hin⟩ := improveL_all hbok hTok hyok
    have hiT : (improveL b T ys).length = T.length := by rw [hiT]; exact hyT
    have hbd := bound_le hbok hTok hyok hyT
    have k1 := fun C hC W hW hQ => ac_use (w := W) (A := A) (c := c) (B := B) (d := d) (C := C) hbok hTok hyok hyT hC hW hn hQ hdn
    have k2 := fun C hC W hW => ab_use (w := W) (A := A) (n := n) (c := c) (C := C) hbok hTok hC hW hn
    have k3 := fun W hQ => mir_use (w := W) (B := B) (d := d) hbok hyok hn hQ hdn
    have k4 := fun C hC B' d' W hW hQ hd' => ac_use (w := W) (A := A) (c := c) (B := B') (d := d') (C := C) hbok hTok hmok hmT hC hW hn hQ hd'
    have k5 := fun W hW hQ => im_use (w := W) (A := A) (c := c) (B := B) (d := d) hbok hTok hyok hyT hW hn hQ hdn
    have k6 := fun C hC B' d' W hW hQ hd' => ac_use (w := W) (A := A) (c := c) (B := B') (d := d') (C := C) hbok hTok hiok hiT hC hW hn hQ hd'
    have k7 := fun B' d' W hW hQ hd' => bs_none (w := W) (A := A) (c := c) (B := B') (d := d') hbok hTok hiok hiT hin hW hn hQ hd'
    clear hpl hI hT hperm hb4 hB3 hd3
    cases ho : bestB b T ys with
    | none =>
      have k8 := fun W hW hQ => bs_none (w := W) (A := A) (c := c) (B := B) (d := d) hbok hTok hyok hyT ho hW hn hQ hdn
      rw [improveL_none ho] at k5 k6 k7 hile
      rw [hmC] at k4
      generalize costI b T ys = C at *
      generalize boundTo b T T.length = Bd at *
      have k1' := Lib.hid (k1 C rfl)
      have k2' := Lib.hid (k2 Bd rfl)
      have k3' := Lib.hid k3
      have k4' := Lib.hid (k4 C rfl)
      have k5' := Lib.hid k5
      have k6' := Lib.hid (k6 C rfl)
      have k7' := Lib.hid k7
      have k8' := Lib.hid k8
      have g1 : decide (C < Bd) = false := decide_eq_false (by omega)
      have g2 : decide (C < C) = false := decide_eq_false (by omega)
      have g3 : (C == C) = true := beq_self_eq_true C
      have hP' := Lib.hid hP
      have hI4' := Lib.hid hI4
      clear k1 k2 k3 k4 k5 k6 k7 k8 hmC hbd hile hin hiok hiT hmok hmT hyok hTok hyT hP hI4 ho hbok hTl hyl
      obtain ⟨x0, x1, x2, x3, x4⟩ := hB4.out.cells
      generalize mirL b ys = M at *
      go_wp2_with fail
      refine (k1'.out _ hI4'.out hP'.out).mono ?_
      rintro e w5 ⟨rfl, hb5⟩
      have hd5 := Lib.hid (hb5)
      replace x0 := cell_step x0 hb5
      replace x1 := cell_step x1 hb5
      replace x2 := cell_step x2 hb5
      replace x3 := cell_step x3 hb5
      replace x4 := cell_step x4 hb5
      go_wp2_with fail
      refine (k2'.out _ (hI4'.out.below hd5.out)).mono ?_
      rintro e w6 ⟨rfl, hb6⟩
      have hd6 := Lib.hid (Below.step hd5.out hb6)
      replace x0 := cell_step x0 hb6
      replace x1 := cell_step x1 hb6
      replace x2 := cell_step x2 hb6
      replace x3 := cell_step x3 hb6
      replace x4 := cell_step x4 hb6
      go_wp2_with fail
      refine (k3'.out _ (hP'.out.below hd6.out)).mono ?_
      rintro e w7 ⟨A7, c7, rfl, hc7, hQ7, hb7⟩
      have hd7 := Lib.hid (Below.step hd6.out hb7)
      replace x0 := cell_step x0 hb7
      replace x1 := cell_step x1 hb7
      replace x2 := cell_step x2 hb7
      replace x3 := cell_step x3 hb7
      replace x4 := cell_step x4 hb7
      go_wp2_with fail
      refine (k4'.out A7 c7 _ (hI4'.out.below hd7.out) hQ7 hc7).mono ?_
      rintro e w8 ⟨rfl, hb8⟩
      have hd8 := Lib.hid (Below.step hd7.out hb8)
      replace x0 := cell_step x0 hb8
      replace x1 := cell_step x1 hb8
      replace x2 := cell_step x2 hb8
      replace x3 := cell_step x3 hb8
      replace x4 := cell_step x4 hb8
      go_wp2_with fail
      refine (k5'.out _ (hI4'.out.below hd8.out) (hP'.out.below hd8.out)).mono ?_
      rintro e w9 ⟨A9, c9, rfl, hc9, hQ9, hb9⟩
      have hd9 := Lib.hid (Below.step hd8.out hb9)
      replace x0 := cell_step x0 hb9
      replace x1 := cell_step x1 hb9
      replace x2 := cell_step x2 hb9
      replace x3 := cell_step x3 hb9
      replace x4 := cell_step x4 hb9
      go_wp2_with fail
      refine (k6'.out A9 c9 _ (hI4'.out.below hd9.out) hQ9 hc9).mono ?_
      rintro e w10 ⟨rfl, hb10⟩
      have hd10 := Lib.hid (Below.step hd9.out hb10)
      replace x0 := cell_step x0 hb10
      replace x1 := cell_step x1 hb10
      replace x2 := cell_step x2 hb10
      replace x3 := cell_step x3 hb10
      replace x4 := cell_step x4 hb10
      go_wp2_with fail
      refine (k7'.out A9 c9 _ (hI4'.out.below hd10.out) (hQ9.below hb10) hc9).mono ?_
      rintro e w11 ⟨rfl, hb11⟩
      have hd11 := Lib.hid (Below.step hd10.out hb11)
      replace x0 := cell_step x0 hb11
      replace x1 := cell_step x1 hb11
      replace x2 := cell_step x2 hb11
      replace x3 := cell_step x3 hb11
      replace x4 := cell_step x4 hb11
      go_wp2_with fail
      refine (k8'.out _ (hI4'.out.below hd11.out) (hP'.out.below hd11.out)).mono ?_
      rintro e w12 ⟨rfl, hb12⟩
      have hd12 := Lib.hid (Below.step hd11.out hb12)
      replace x0 := cell_step x0 hb12
      replace x1 := cell_step x1 hb12
      replace x2 := cell_step x2 hb12
      replace x3 := cell_step x3 hb12
      replace x4 := cell_step x4 hb12
      go_wp2
      go_ret
      exact ⟨rfl, hd4.out.step hd12.out⟩
    | some p =>
      obtain ⟨i, k⟩ := p
      obtain ⟨i1, i2, i3⟩ := bestB_some ho
      have hsle := improveL_some hbok hTok hyok ho
      have hi : i < ys.length := by omega
      have hsok := swap_ok hi i2 hyok
      have hsT : (swapL ys i k).length = T.length := by rw [swapL_length]; exact hyT
      have hback := swap_twice hi i2
      have k8 := fun W hW hQ => bs_some (w := W) (A := A) (c := c) (B := B) (d := d) hbok hTok hyok hyT ho hW hn hQ hdn
      have k9 := fun W hQ => sw_use (w := W) (B := B) (d := d) (i := i) (k := k) hbok hyok hi i2 hn hQ hdn
      have k10 := fun C hC B' d' W hW hQ hd' => ac_use (w := W) (A := A) (c := c) (B := B') (d := d') (C := C) hbok hTok hsok hsT hC hW hn hQ hd'
      have k11 := fun B' d' W hQ hd' => sw_use (w := W) (n := n) (B := B') (d := d') (i := i) (k := k) hbok hsok (by rw [swapL_length]; exact hi) (by rw [swapL_length]; exact i2) hn hQ hd'
      rw [hback] at k11
      rw [hmC] at k4
      rw [hyl] at i2 hi
      generalize costI b T (swapL ys i k) = C2 at *
      generalize costI b T (improveL b T ys) = CI at *
      generalize costI b T ys = C at *
      generalize boundTo b T T.length = Bd at *
      have k1' := Lib.hid (k1 C rfl)
      have k2' := Lib.hid (k2 Bd rfl)
      have k3' := Lib.hid k3
      have k4' := Lib.hid (k4 C rfl)
      have k5' := Lib.hid k5
      have k6' := Lib.hid (k6 CI rfl)
      have k7' := Lib.hid k7
      have k8' := Lib.hid k8
      have k9' := Lib.hid k9
      have k10' := Lib.hid (k10 C2 rfl)
      have k11' := Lib.hid k11
      have g1 : decide (C < Bd) = false := decide_eq_false (by omega)
      have g2 : decide (C < CI) = false := decide_eq_false (by omega)
      have g3 : (C == C) = true := beq_self_eq_true C
      have g4 : decide (C2 < C) = true := decide_eq_true i3
      have g5 : decide (CI ≤ C2) = true := decide_eq_true hsle
      have g6 : decide ((i : Int) < 0) = false := decide_eq_false (by omega)
      have g7 : decide ((k : Int) ≤ (i : Int)) = false := decide_eq_false (by omega)
      have g8 : decide (k ≤ i) = false := decide_eq_false (by omega)
      have g9 : decide ((n : Int) ≤ (k : Int)) = false := decide_eq_false (by omega)
      have g10 : decide (n ≤ k) = false := decide_eq_false (by omega)
      have hP' := Lib.hid hP
      have hI4' := Lib.hid hI4
      clear k1 k2 k3 k4 k5 k6 k7 k8 k9 k10 k11 hmC hbd hile hin hiok hiT hmok hmT hyok hTok hyT hP hI4 ho hbok hTl hyl hsle hsok hsT hback i3 i1 i2 hi
      obtain ⟨x0, x1, x2, x3, x4⟩ := hB4.out.cells
      generalize mirL b ys = M at *
      generalize improveL b T ys = I at *
      generalize swapL ys i k = S at *
      go_wp2_with fail
      refine (k1'.out _ hI4'.out hP'.out).mono ?_
      rintro e w5 ⟨rfl, hb5⟩
      have hd5 := Lib.hid (hb5)
      replace x0 := cell_step x0 hb5
      replace x1 := cell_step x1 hb5
      replace x2 := cell_step x2 hb5
      replace x3 := cell_step x3 hb5
      replace x4 := cell_step x4 hb5
      go_wp2_with fail
      refine (k2'.out _ (hI4'.out.below hd5.out)).mono ?_
      rintro e w6 ⟨rfl, hb6⟩
      have hd6 := Lib.hid (Below.step hd5.out hb6)
      replace x0 := cell_step x0 hb6
      replace x1 := cell_step x1 hb6
      replace x2 := cell_step x2 hb6
      replace x3 := cell_step x3 hb6
      replace x4 := cell_step x4 hb6
      go_wp2_with fail
      refine (k3'.out _ (hP'.out.below hd6.out)).mono ?_
      rintro e w7 ⟨A7, c7, rfl, hc7, hQ7, hb7⟩
      have hd7 := Lib.hid (Below.step hd6.out hb7)
      replace x0 := cell_step x0 hb7
      replace x1 := cell_step x1 hb7
      replace x2 := cell_step x2 hb7
      replace x3 := cell_step x3 hb7
      replace x4 := cell_step x4 hb7
      go_wp2_with fail
      refine (k4'.out A7 c7 _ (hI4'.out.below hd7.out) hQ7 hc7).mono ?_
      rintro e w8 ⟨rfl, hb8⟩
      have hd8 := Lib.hid (Below.step hd7.out hb8)
      replace x0 := cell_step x0 hb8
      replace x1 := cell_step x1 hb8
      replace x2 := cell_step x2 hb8
      replace x3 := cell_step x3 hb8
      replace x4 := cell_step x4 hb8
      go_wp2_with fail
      refine (k5'.out _ (hI4'.out.below hd8.out) (hP'.out.below hd8.out)).mono ?_
      rintro e w9 ⟨A9, c9, rfl, hc9, hQ9, hb9⟩
      have hd9 := Lib.hid (Below.step hd8.out hb9)
      replace x0 := cell_step x0 hb9
      replace x1 := cell_step x1 hb9
      replace x2 := cell_step x2 hb9
      replace x3 := cell_step x3 hb9
      replace x4 := cell_step x4 hb9
      go_wp2_with fail
      refine (k6'.out A9 c9 _ (hI4'.out.below hd9.out) hQ9 hc9).mono ?_
      rintro e w10 ⟨rfl, hb10⟩
      have hd10 := Lib.hid (Below.step hd9.out hb10)
      replace x0 := cell_step x0 hb10
      replace x1 := cell_step x1 hb10
      replace x2 := cell_step x2 hb10
      replace x3 := cell_step x3 hb10
      replace x4 := cell_step x4 hb10
      go_wp2_with fail
      refine (k7'.out A9 c9 _ (hI4'.out.below hd10.out) (hQ9.below hb10) hc9).mono ?_
      rintro e w11 ⟨rfl, hb11⟩
      have hd11 := Lib.hid (Below.step hd10.out hb11)
      replace x0 := cell_step x0 hb11
      replace x1 := cell_step x1 hb11
      replace x2 := cell_step x2 hb11
      replace x3 := cell_step x3 hb11
      replace x4 := cell_step x4 hb11
      go_wp2_with fail
      refine (k8'.out _ (hI4'.out.below hd11.out) (hP'.out.below hd11.out)).mono ?_
      rintro e w12 ⟨rfl, hb12⟩
      have hd12 := Lib.hid (Below.step hd11.out hb12)
      replace x0 := cell_step x0 hb12
      replace x1 := cell_step x1 hb12
      replace x2 := cell_step x2 hb12
      replace x3 := cell_step x3 hb12
      replace x4 := cell_step x4 hb12
      go_wp2_with fail
      refine (k9'.out _ (hP'.out.below hd12.out)).mono ?_
      rintro e w13 ⟨A13, c13, rfl, hc13, hQ13, hb13⟩
      have hd13 := Lib.hid (Below.step hd12.out hb13)
      replace x0 := cell_step x0 hb13
      replace x1 := cell_step x1 hb13
      replace x2 := cell_step x2 hb13
      replace x3 := cell_step x3 hb13
      replace x4 := cell_step x4 hb13
      go_wp2_with fail
      refine (k10'.out A13 c13 _ (hI4'.out.below hd13.out) hQ13 hc13).mono ?_
      rintro e w14 ⟨rfl, hb14⟩
      have hd14 := Lib.hid (Below.step hd13.out hb14)
      replace x0 := cell_step x0 hb14
      replace x1 := cell_step x1 hb14
      replace x2 := cell_step x2 hb14
      replace x3 := cell_step x3 hb14
      replace x4 := cell_step x4 hb14
      go_wp2_with fail
      refine (k11'.out A13 c13 _ (hQ13.below hb14) hc13).mono ?_
      rintro e w15 ⟨A15, c15, rfl, hc15, hQ15, hb15⟩
      have hd15 := Lib.hid (Below.step hd14.out hb15)
      replace x0 := cell_step x0 hb15
      replace x1 := cell_step x1 hb15
      replace x2 := cell_step x2 hb15
      replace x3 := cell_step x3 hb15
      replace x4 := cell_step x4 hb15
      have hsm := Lib.hid (a2same_any A15 B n c15 d ys w15 hQ15 (hP'.out.below hd15.out) hn)
      go_wp2_with fail
      refine (hsm.out).mono ?_
      rintro e w16 ⟨rfl, hb16⟩
      go_wp2
      go_ret
      exact ⟨rfl, (hd4.out.step hd15.out).step hb16⟩
end Go.Proofs.Ytbhiimleagldgaa
