/- Ribbons: the program's first stroke that is too pale, and how many ribbons are needed. -/
import Derived.Test.YtceedmejmmoepaaDoorRd0
import Derived.Test.YtceedmejmmoepaaDoorRb7
import Derived.Test.YtceedmejmmoepaaDoorRc1
import Derived.Test.YtceedmejmmoepaaDoorIsE
namespace Go.Proofs.YtceedmejmmoepaaDoor
open Go.RowKit Go.ChangeShapes Go.WideShapes Go.Deep
set_option linter.unusedVariables false
set_option linter.unusedSimpArgs false

/-- The package error. -/
def errV (a : Addr) : Value := .iface 105 (.pointer (some a))
def ErrC (a : Addr) (w : World) : Prop := w.cell? ⟨0, 0, none⟩ = some (.iface 105 (.pointer (some a)))
theorem ErrC.step {a : Addr} {w w' : World} (h : ErrC a w) (hb : Below w.heap.size w w') : ErrC a w' := cell_step h hb
theorem ErrC.alloc {a : Addr} {w : World} (h : ErrC a w) (o : Obj) : ErrC a (w.alloc o) := h.step (below_a1 w o)
theorem isE_same' (a : Addr) (w : World) : Calls Tryd.prog 26 #[.iface 105 (.pointer (some a)), .iface 105 (.pointer (some a))] w fun e w' => e = .returned (.bool true) ∧ w = w' := (isE_same a w).mono fun e w' h => ⟨h.1, h.2.symm⟩
theorem isE_nil' (a : Addr) (w : World) : Calls Tryd.prog 26 #[.nilIface, .iface 105 (.pointer (some a))] w fun e w' => e = .returned (.bool false) ∧ w = w' := (isE_nil a w).mono fun e w' h => ⟨h.1, h.2.symm⟩
set_option maxRecDepth 100000 in
set_option maxHeartbeats 2400000 in
theorem pale_yes14 (r : RibbonD) (hok : rbB r = true) (l : Int) (h0 : 1 ≤ l) (h1 : l ≤ r.ink) (a : Addr) (hF : firstF r.spots.toNat (paleU r l) ≤ 100000) (w : World) (hE : ErrC a w) :
    Calls Tryd.prog 25 #[.agg #[.int .i64 r.spots, .int .i64 r.ink, .int .i64 r.takes], .int .i64 l] w fun e w' => e = .returned (.tuple #[.int .i64 (firstF r.spots.toNat (paleU r l) : Int), .nilIface]) ∧ Below w.heap.size w w' := by
  have hrn := Lib.hid (fun W => run14i r hok rfl W)
  have hrd := Lib.hid (fun W => round14i r hok rfl W)
  obtain ⟨⟨c0, c1⟩, ⟨d0, d1⟩, f0, f1⟩ := rbB_iff.1 hok
  unfold turnV at hrd
  obtain ⟨FF, hFF⟩ : ∃ FF, firstF r.spots.toNat (paleU r l) = FF := ⟨_, rfl⟩
  rw [hFF] at hF ⊢
  unfold paleU firstF at hFF
  obtain ⟨S0, I, K⟩ := r
  simp only at *
  obtain ⟨S, rfl⟩ : ∃ S : Nat, S0 = (S : Int) := ⟨S0.toNat, by omega⟩
  obtain ⟨k, rfl⟩ : ∃ k : Nat, K = (k : Int) := ⟨K.toNat, by omega⟩
  obtain ⟨d, hd⟩ : ∃ d : Nat, I - l = (d : Int) := ⟨(I - l).toNat, by omega⟩
  rw [hd] at hFF
  simp only [Int.toNat_natCast] at hFF
  have hdb : d ≤ 1000 := by omega
  have hw1 : IntKind.i64.wrap (I - l) = (d : Int) := by rw [hd]; exact IntWalk.i64_in _ (by omega)
  have hqb : d / k ≤ d := Nat.div_le_self _ _
  have hq : ((d : Nat) : Int).tdiv (k : Int) = ((d / k : Nat) : Int) := (Int.ofNat_tdiv _ _).symm
  have hz : ((k : Int) == 0) = false := beq_eq_false_iff_ne.2 (by omega)
  have hz2 : ¬ (k : Int) = 0 := by omega
  have hz3 : ¬ k = 0 := by omega
  generalize d / k = Q at *
  have hw2 : IntKind.i64.wrap (Q : Int) = (Q : Int) := IntWalk.i64_in _ (by omega)
  have hw3 : IntKind.i64.wrap ((Q : Int) + 1) = ((Q + 1 : Nat) : Int) := by rw [IntWalk.i64_in _ (by omega)]; omega
  have hub : 1 ≤ Q + 1 ∧ Q + 1 ≤ 1001 := by omega
  generalize Q + 1 = u at *
  have e0 : (S : Int) - 1 = ((S - 1 : Nat) : Int) := by omega
  rw [e0] at hrn hrd
  have hSb : S - 1 ≤ 199 := by omega
  have hS1 : 1 ≤ S - 1 := by omega
  have hm : (u : Int) * ((S - 1 : Nat) : Int) = ((u * (S - 1) : Nat) : Int) := by simp
  have hmb : u * (S - 1) ≤ 1001 * 199 := Nat.mul_le_mul (by omega) hSb
  have hm2 : (u : Int) * (2 * ((S - 1 : Nat) : Int)) = ((u * (2 * (S - 1)) : Nat) : Int) := by simp
  have hmb2 : u * (2 * (S - 1)) ≤ 1001 * 398 := Nat.mul_le_mul (by omega) (by omega)
  generalize hD2 : 2 * ((S - 1 : Nat) : Int) = T at *
  generalize hM2 : u * (2 * (S - 1)) = M2 at *
  have hw6 : IntKind.i64.wrap ((u : Int) * T) = (M2 : Int) := by rw [hm2]; exact IntWalk.i64_in _ (by omega)
  generalize hM1 : u * (S - 1) = M1 at *
  have hw4 : IntKind.i64.wrap ((u : Int) * ((S - 1 : Nat) : Int)) = (M1 : Int) := by rw [hm]; exact IntWalk.i64_in _ (by omega)
  have hw5 : IntKind.i64.wrap ((M1 : Int) + 1) = ((M1 + 1 : Nat) : Int) := by rw [IntWalk.i64_in _ (by omega)]; omega
  generalize S - 1 = R at *
  generalize hN1 : M1 + 1 = N1 at *
  replace hm := Lib.hid hm
  replace hm2 := Lib.hid hm2
  replace hM2 := Lib.hid hM2
  replace hM1 := Lib.hid hM1
  replace hN1 := Lib.hid hN1
  replace hD2 := Lib.hid hD2
  replace hd := Lib.hid hd
  clear hok e0
  by_cases h2 : S = 2
  · have g1 : ((S : Int) == 2) = true := beq_iff_eq.2 (by omega)
    have g1' : (S == 2) = true := beq_iff_eq.2 h2
    rw [if_pos h2] at hFF
    subst hFF
    have g2 : decide ((100000 : Int) < (M2 : Int)) = false := decide_eq_false (by omega)
    have g2' : decide (100000 < M2) = false := decide_eq_false (by omega)
    replace h2 := Lib.hid h2
    replace hE := Lib.hid hE
    go_enter Tryd.func25, Tryd.ntmps25
    have hE1 := Lib.hid (hE.out.alloc (.cells #[.int .i64 (S : Int), .int .i64 I, .int .i64 (k : Int)] 26))
    go_wp2_with fail
    refine (hrn.out _).mono ?_
    rintro e w1 ⟨rfl, hb1⟩
    obtain ⟨q0, q1, q2⟩ := (Box3r.new w _ (.int .i64 (S : Int)) (.int .i64 I) (.int .i64 (k : Int))).step hb1
    have hbz := Lib.hid ((below_a1 w _).step hb1)
    replace hE1 := Lib.hid (hE1.out.step hb1)
    clear hb1
    go_wp2_with fail
    refine (hrd.out _).mono ?_
    rintro e w2 ⟨rfl, hb2⟩
    replace hbz := Lib.hid (hbz.out.step hb2)
    replace hE1 := Lib.hid (hE1.out.step hb2)
    clear hb2 q0 q1 q2
    go_wp2
    go_ret2
    exact ⟨rfl, hbz.out⟩
  · have g1 : ((S : Int) == 2) = false := beq_eq_false_iff_ne.2 (by omega)
    have g1' : (S == 2) = false := beq_eq_false_iff_ne.2 h2
    rw [if_neg h2] at hFF
    subst hFF
    have g2 : decide ((100000 : Int) < (N1 : Int)) = false := decide_eq_false (by omega)
    have g2' : decide (100000 < N1) = false := decide_eq_false (by omega)
    replace h2 := Lib.hid h2
    replace hE := Lib.hid hE
    go_enter Tryd.func25, Tryd.ntmps25
    have hE1 := Lib.hid (hE.out.alloc (.cells #[.int .i64 (S : Int), .int .i64 I, .int .i64 (k : Int)] 26))
    go_wp2_with fail
    refine (hrn.out _).mono ?_
    rintro e w1 ⟨rfl, hb1⟩
    obtain ⟨q0, q1, q2⟩ := (Box3r.new w _ (.int .i64 (S : Int)) (.int .i64 I) (.int .i64 (k : Int))).step hb1
    have hbz := Lib.hid ((below_a1 w _).step hb1)
    replace hE1 := Lib.hid (hE1.out.step hb1)
    clear hb1
    go_wp2
    go_ret2
    exact ⟨rfl, hbz.out⟩
set_option maxRecDepth 100000 in
set_option maxHeartbeats 2400000 in
theorem pale_no14 (r : RibbonD) (hok : rbB r = true) (l : Int) (h0 : 1 ≤ l) (h1 : l ≤ r.ink) (a : Addr) (hF : 100000 < firstF r.spots.toNat (paleU r l)) (w : World) (hE : ErrC a w) :
    Calls Tryd.prog 25 #[.agg #[.int .i64 r.spots, .int .i64 r.ink, .int .i64 r.takes], .int .i64 l] w fun e w' => e = .returned (.tuple #[.int .i64 0, .iface 105 (.pointer (some a))]) ∧ Below w.heap.size w w' := by
  have hrn := Lib.hid (fun W => run14i r hok rfl W)
  have hrd := Lib.hid (fun W => round14i r hok rfl W)
  obtain ⟨⟨c0, c1⟩, ⟨d0, d1⟩, f0, f1⟩ := rbB_iff.1 hok
  unfold turnV at hrd
  obtain ⟨FF, hFF⟩ : ∃ FF, firstF r.spots.toNat (paleU r l) = FF := ⟨_, rfl⟩
  rw [hFF] at hF
  unfold paleU firstF at hFF
  obtain ⟨S0, I, K⟩ := r
  simp only at *
  obtain ⟨S, rfl⟩ : ∃ S : Nat, S0 = (S : Int) := ⟨S0.toNat, by omega⟩
  obtain ⟨k, rfl⟩ : ∃ k : Nat, K = (k : Int) := ⟨K.toNat, by omega⟩
  obtain ⟨d, hd⟩ : ∃ d : Nat, I - l = (d : Int) := ⟨(I - l).toNat, by omega⟩
  rw [hd] at hFF
  simp only [Int.toNat_natCast] at hFF
  have hdb : d ≤ 1000 := by omega
  have hw1 : IntKind.i64.wrap (I - l) = (d : Int) := by rw [hd]; exact IntWalk.i64_in _ (by omega)
  have hqb : d / k ≤ d := Nat.div_le_self _ _
  have hq : ((d : Nat) : Int).tdiv (k : Int) = ((d / k : Nat) : Int) := (Int.ofNat_tdiv _ _).symm
  have hz : ((k : Int) == 0) = false := beq_eq_false_iff_ne.2 (by omega)
  have hz2 : ¬ (k : Int) = 0 := by omega
  have hz3 : ¬ k = 0 := by omega
  generalize d / k = Q at *
  have hw2 : IntKind.i64.wrap (Q : Int) = (Q : Int) := IntWalk.i64_in _ (by omega)
  have hw3 : IntKind.i64.wrap ((Q : Int) + 1) = ((Q + 1 : Nat) : Int) := by rw [IntWalk.i64_in _ (by omega)]; omega
  have hub : 1 ≤ Q + 1 ∧ Q + 1 ≤ 1001 := by omega
  generalize Q + 1 = u at *
  have e0 : (S : Int) - 1 = ((S - 1 : Nat) : Int) := by omega
  rw [e0] at hrn hrd
  have hSb : S - 1 ≤ 199 := by omega
  have hS1 : 1 ≤ S - 1 := by omega
  have hm : (u : Int) * ((S - 1 : Nat) : Int) = ((u * (S - 1) : Nat) : Int) := by simp
  have hmb : u * (S - 1) ≤ 1001 * 199 := Nat.mul_le_mul (by omega) hSb
  have hm2 : (u : Int) * (2 * ((S - 1 : Nat) : Int)) = ((u * (2 * (S - 1)) : Nat) : Int) := by simp
  have hmb2 : u * (2 * (S - 1)) ≤ 1001 * 398 := Nat.mul_le_mul (by omega) (by omega)
  generalize hD2 : 2 * ((S - 1 : Nat) : Int) = T at *
  generalize hM2 : u * (2 * (S - 1)) = M2 at *
  have hw6 : IntKind.i64.wrap ((u : Int) * T) = (M2 : Int) := by rw [hm2]; exact IntWalk.i64_in _ (by omega)
  generalize hM1 : u * (S - 1) = M1 at *
  have hw4 : IntKind.i64.wrap ((u : Int) * ((S - 1 : Nat) : Int)) = (M1 : Int) := by rw [hm]; exact IntWalk.i64_in _ (by omega)
  have hw5 : IntKind.i64.wrap ((M1 : Int) + 1) = ((M1 + 1 : Nat) : Int) := by rw [IntWalk.i64_in _ (by omega)]; omega
  generalize S - 1 = R at *
  generalize hN1 : M1 + 1 = N1 at *
  replace hm := Lib.hid hm
  replace hm2 := Lib.hid hm2
  replace hM2 := Lib.hid hM2
  replace hM1 := Lib.hid hM1
  replace hN1 := Lib.hid hN1
  replace hD2 := Lib.hid hD2
  replace hd := Lib.hid hd
  clear hok e0
  by_cases h2 : S = 2
  · have g1 : ((S : Int) == 2) = true := beq_iff_eq.2 (by omega)
    have g1' : (S == 2) = true := beq_iff_eq.2 h2
    rw [if_pos h2] at hFF
    subst hFF
    have g2 : decide ((100000 : Int) < (M2 : Int)) = true := decide_eq_true (by omega)
    have g2' : decide (100000 < M2) = true := decide_eq_true (by omega)
    replace h2 := Lib.hid h2
    replace hF := Lib.hid hF
    replace hE := Lib.hid hE
    go_enter Tryd.func25, Tryd.ntmps25
    have hE1 := Lib.hid (hE.out.alloc (.cells #[.int .i64 (S : Int), .int .i64 I, .int .i64 (k : Int)] 26))
    go_wp2_with fail
    refine (hrn.out _).mono ?_
    rintro e w1 ⟨rfl, hb1⟩
    obtain ⟨q0, q1, q2⟩ := (Box3r.new w _ (.int .i64 (S : Int)) (.int .i64 I) (.int .i64 (k : Int))).step hb1
    have hbz := Lib.hid ((below_a1 w _).step hb1)
    replace hE1 := Lib.hid (hE1.out.step hb1)
    clear hb1
    go_wp2_with fail
    refine (hrd.out _).mono ?_
    rintro e w2 ⟨rfl, hb2⟩
    replace hbz := Lib.hid (hbz.out.step hb2)
    replace hE1 := Lib.hid (hE1.out.step hb2)
    clear hb2 q0 q1 q2
    go_wp2_with fail
    refine wp_region_held_drew (S := fun w' => Below w.heap.size w w' ∧ w'.cell? ⟨0, 0, none⟩ = some (.iface 105 (.pointer (some a)))) (by kernel_rfl) ?_ (fun hHeld => ?_)
    · exact ⟨hbz.out.drew, hE1.out.step ((Below.refl _ _).drew)⟩
    refine wpAnyH_take (i := 0) (v := ?vzU1_0) rfl (by kernel_rfl) (by kernel_rfl) (by kernel_rfl) (fun _ _ _ h => h) (Or.inl ⟨rfl, ?yzU1_0⟩) (by assumption) ?_
    case yzU1_0 => (intro w hSw; (try dsimp only at hSw); go_simp; first | done | with_reducible rfl)
    simp only [List.getElem_toArray, List.getElem_cons_succ, List.getElem_cons_zero, Act.put, List.setIfInBounds_toArray, List.set_cons_zero, List.set_cons_succ]
    refine wpAnyH_take (i := 1) (v := ?vzU1_1) rfl (by kernel_rfl) (by kernel_rfl) (by kernel_rfl) (fun _ _ _ h => h) (Or.inl ⟨rfl, ?yzU1_1⟩) (by assumption) ?_
    case yzU1_1 => (intro w hSw; (try dsimp only at hSw); go_simp; first | done | with_reducible rfl)
    simp only [List.getElem_toArray, List.getElem_cons_succ, List.getElem_cons_zero, Act.put, List.setIfInBounds_toArray, List.set_cons_zero, List.set_cons_succ]
    refine wpAnyH_take (i := 2) (v := ?vzU1_2) rfl (by kernel_rfl) (by kernel_rfl) (by kernel_rfl) (fun _ _ _ h => h) (Or.inl ⟨rfl, ?yzU1_2⟩) (by assumption) ?_
    case yzU1_2 => (intro w hSw; (try dsimp only at hSw); go_simp; first | done | with_reducible rfl)
    simp only [List.getElem_toArray, List.getElem_cons_succ, List.getElem_cons_zero, Act.put, List.setIfInBounds_toArray, List.set_cons_zero, List.set_cons_succ]
    refine wpAnyH_done (by kernel_rfl) ?_ _
    go_wp2
    go_ret2
    exact ⟨rfl, hHeld.1⟩
  · have g1 : ((S : Int) == 2) = false := beq_eq_false_iff_ne.2 (by omega)
    have g1' : (S == 2) = false := beq_eq_false_iff_ne.2 h2
    rw [if_neg h2] at hFF
    subst hFF
    have g2 : decide ((100000 : Int) < (N1 : Int)) = true := decide_eq_true (by omega)
    have g2' : decide (100000 < N1) = true := decide_eq_true (by omega)
    replace h2 := Lib.hid h2
    replace hF := Lib.hid hF
    replace hE := Lib.hid hE
    go_enter Tryd.func25, Tryd.ntmps25
    have hE1 := Lib.hid (hE.out.alloc (.cells #[.int .i64 (S : Int), .int .i64 I, .int .i64 (k : Int)] 26))
    go_wp2_with fail
    refine (hrn.out _).mono ?_
    rintro e w1 ⟨rfl, hb1⟩
    obtain ⟨q0, q1, q2⟩ := (Box3r.new w _ (.int .i64 (S : Int)) (.int .i64 I) (.int .i64 (k : Int))).step hb1
    have hbz := Lib.hid ((below_a1 w _).step hb1)
    replace hE1 := Lib.hid (hE1.out.step hb1)
    clear hb1
    go_wp2_with fail
    refine wp_region_held_drew (S := fun w' => Below w.heap.size w w' ∧ w'.cell? ⟨0, 0, none⟩ = some (.iface 105 (.pointer (some a)))) (by kernel_rfl) ?_ (fun hHeld => ?_)
    · exact ⟨hbz.out.drew, hE1.out.step ((Below.refl _ _).drew)⟩
    refine wpAnyH_take (i := 0) (v := ?vzU2_0) rfl (by kernel_rfl) (by kernel_rfl) (by kernel_rfl) (fun _ _ _ h => h) (Or.inl ⟨rfl, ?yzU2_0⟩) (by assumption) ?_
    case yzU2_0 => (intro w hSw; (try dsimp only at hSw); go_simp; first | done | with_reducible rfl)
    simp only [List.getElem_toArray, List.getElem_cons_succ, List.getElem_cons_zero, Act.put, List.setIfInBounds_toArray, List.set_cons_zero, List.set_cons_succ]
    refine wpAnyH_take (i := 1) (v := ?vzU2_1) rfl (by kernel_rfl) (by kernel_rfl) (by kernel_rfl) (fun _ _ _ h => h) (Or.inl ⟨rfl, ?yzU2_1⟩) (by assumption) ?_
    case yzU2_1 => (intro w hSw; (try dsimp only at hSw); go_simp; first | done | with_reducible rfl)
    simp only [List.getElem_toArray, List.getElem_cons_succ, List.getElem_cons_zero, Act.put, List.setIfInBounds_toArray, List.set_cons_zero, List.set_cons_succ]
    refine wpAnyH_take (i := 2) (v := ?vzU2_2) rfl (by kernel_rfl) (by kernel_rfl) (by kernel_rfl) (fun _ _ _ h => h) (Or.inl ⟨rfl, ?yzU2_2⟩) (by assumption) ?_
    case yzU2_2 => (intro w hSw; (try dsimp only at hSw); go_simp; first | done | with_reducible rfl)
    simp only [List.getElem_toArray, List.getElem_cons_succ, List.getElem_cons_zero, Act.put, List.setIfInBounds_toArray, List.set_cons_zero, List.set_cons_succ]
    refine wpAnyH_done (by kernel_rfl) ?_ _
    go_wp2
    go_ret2
    exact ⟨rfl, hHeld.1⟩
set_option maxHeartbeats 1600000 in
theorem su14_impl (a : Addr) (r : RibbonD) (n : Int) (w : World) (hg : r.good) (hwf : (Lit.int .i64 n).wf = true) (hE : ErrC a w) :
    Calls Tryd.prog 9 #[.agg #[.int .i64 r.spots, .int .i64 r.ink, .int .i64 r.takes], .int .i64 n] w fun e w' => e = .returned (.tuple #[.int .i64 (suR r n).1, .int .i64 (suR r n).2]) ∧ Below w.heap.size w w' := by
  clear hg hwf
  generalize hr : suR r n = q
  replace hr := Lib.hid hr.symm
  cases h1 : rbB r with
  | false =>
    have hb : Hid (q = (0, 1)) := Lib.hid (by rw [hr.out, suR, rlC, h1]; rfl)
    have hc := Lib.hid (fun W => ok14i r h1 W)
    clear h1 hr
    obtain ⟨S, I, K⟩ := r
    go_enter Tryd.func9, Tryd.ntmps9
    go_wp2_with fail
    refine (hc.out _).mono ?_
    rintro e w1 ⟨rfl, hb1⟩
    go_wp2
    go_ret2
    exact ⟨ret8_2 hb.out, (below_a1 _ _).step hb1⟩
  | true =>
    have hc := Lib.hid (fun W => ok14i r h1 W)
    cases h2 : inR n 1 r.ink with
    | false =>
      have hb : Hid (q = (0, 2)) := Lib.hid (by rw [hr.out, suR, rlC, h1, if_pos rfl, h2]; rfl)
      clear h1 hr
      obtain ⟨S, I, K⟩ := r
      simp only at h2
      replace h2 := Lib.hid h2
      go_enter Tryd.func9, Tryd.ntmps9
      go_wp2_with fail
      refine (hc.out _).mono ?_
      rintro e w1 ⟨rfl, hb1⟩
      obtain ⟨q0, q1, q2⟩ := (Box3r.new w _ (.int .i64 S) (.int .i64 I) (.int .i64 K)).step hb1
      go_wp2_with fail
      refine (in8_impl h2.out _).mono ?_
      rintro e w1' ⟨rfl, rfl⟩
      go_wp2
      go_ret2
      exact ⟨ret8_2 hb.out, (below_a1 _ _).step hb1⟩
    | true =>
      obtain ⟨i0, i1⟩ := inR_iff.1 h2
      obtain ⟨⟨c0, c1⟩, ⟨d0, d1⟩, f0, f1⟩ := rbB_iff.1 h1
      have hu := until_first r n c0 f0 i0 i1
      have hl : rlC r n = 0 := by rw [rlC, if_pos h1, if_pos h2]
      by_cases hF : firstF r.spots.toNat (paleU r n) ≤ 100000
      · rw [if_pos hF] at hu
        have hb : Hid (q = ((firstF r.spots.toNat (paleU r n) : Int), 0)) := Lib.hid (by rw [hr.out, suR, if_pos hl, if_neg (by omega), hu])
        have hp := Lib.hid (fun W h => pale_yes14 r h1 n i0 i1 a hF W h)
        generalize firstF r.spots.toNat (paleU r n) = F at *
        clear hu hl h1 hr
        obtain ⟨S, I, K⟩ := r
        simp only at h2
        replace h2 := Lib.hid h2
        replace hE := Lib.hid hE
        go_enter Tryd.func9, Tryd.ntmps9
        go_wp2_with fail
        refine (hc.out _).mono ?_
        rintro e w1 ⟨rfl, hb1⟩
        obtain ⟨q0, q1, q2⟩ := (Box3r.new w _ (.int .i64 S) (.int .i64 I) (.int .i64 K)).step hb1
        have hbz := Lib.hid ((below_a1 w _).step hb1)
        clear hb1
        go_wp2_with fail
        refine (in8_impl h2.out _).mono ?_
        rintro e w1' ⟨rfl, rfl⟩
        go_wp2_with fail
        refine (hp.out _ (hE.out.step hbz.out)).mono ?_
        rintro e w2 ⟨rfl, hb2⟩
        replace hbz := Lib.hid (hbz.out.step hb2)
        have hE2 := hE.out.step hbz.out
        unfold ErrC at hE2
        clear hb2 q0 q1 q2
        go_wp2_with fail
        refine (isE_nil' a _).mono ?_
        rintro e w2' ⟨rfl, rfl⟩
        go_wp2
        go_ret2
        exact ⟨ret8_2 hb.out, hbz.out⟩
      · rw [if_neg hF] at hu
        have hb : Hid (q = (0, 5)) := Lib.hid (by rw [hr.out, suR, if_pos hl, if_pos (by omega)])
        have hp := Lib.hid (fun W h => pale_no14 r h1 n i0 i1 a (by omega) W h)
        clear hu hl h1 hr hF
        obtain ⟨S, I, K⟩ := r
        simp only at h2
        replace h2 := Lib.hid h2
        replace hE := Lib.hid hE
        go_enter Tryd.func9, Tryd.ntmps9
        go_wp2_with fail
        refine (hc.out _).mono ?_
        rintro e w1 ⟨rfl, hb1⟩
        obtain ⟨q0, q1, q2⟩ := (Box3r.new w _ (.int .i64 S) (.int .i64 I) (.int .i64 K)).step hb1
        have hbz := Lib.hid ((below_a1 w _).step hb1)
        clear hb1
        go_wp2_with fail
        refine (in8_impl h2.out _).mono ?_
        rintro e w1' ⟨rfl, rfl⟩
        go_wp2_with fail
        refine (hp.out _ (hE.out.step hbz.out)).mono ?_
        rintro e w2 ⟨rfl, hb2⟩
        replace hbz := Lib.hid (hbz.out.step hb2)
        have hE2 := hE.out.step hbz.out
        unfold ErrC at hE2
        clear hb2 q0 q1 q2
        go_wp2_with fail
        refine (isE_same' a _).mono ?_
        rintro e w2' ⟨rfl, rfl⟩
        go_wp2
        go_ret2
        exact ⟨ret8_2 hb.out, hbz.out⟩
set_option maxHeartbeats 1600000 in
theorem need14i (a : Addr) (r : RibbonD) (hok : rbB r = true) (n l : Int) (h0 : 0 ≤ n) (h1 : n ≤ 100000) (i0 : 1 ≤ l) (i1 : l ≤ r.ink) {v : Int} (hv : manyV r n l = v) (w : World) (hE : ErrC a w) :
    Calls Tryd.prog 30 #[.agg #[.int .i64 r.spots, .int .i64 r.ink, .int .i64 r.takes], .int .i64 n, .int .i64 l] w fun e w' => e = .returned (.int .i64 v) ∧ Below w.heap.size w w' := by
  obtain ⟨⟨c0, c1⟩, ⟨d0, d1⟩, f0, f1⟩ := rbB_iff.1 hok
  have hu := until_first r l c0 f0 i0 i1
  have hur := untilN_range hok i1
  unfold manyV at hv
  obtain ⟨N, rfl⟩ : ∃ N : Nat, n = (N : Int) := ⟨n.toNat, by omega⟩
  obtain ⟨E, hEE⟩ : ∃ E, untilN r l = E := ⟨_, rfl⟩
  rw [hEE] at hu hur hv
  have hw1 : IntKind.i64.wrap ((N : Int) + (E : Int)) = (N : Int) + (E : Int) := IntWalk.i64_in _ (by omega)
  have hw2 : IntKind.i64.wrap ((N : Int) + (E : Int) - 1) = (N : Int) + (E : Int) - 1 := IntWalk.i64_in _ (by omega)
  have hz : ((E : Int) == 0) = false := beq_eq_false_iff_ne.2 (by omega)
  have hz2 : ¬ (E : Int) = 0 := by omega
  have hz3 : ¬ E = 0 := by omega
  have hvb : 0 ≤ v ∧ v ≤ 200001 := by
    rw [← hv, show (N : Int) + (E : Int) - 1 = ((N + E - 1 : Nat) : Int) by omega, ← Int.ofNat_tdiv]
    have := Nat.div_le_self (N + E - 1) E
    generalize (N + E - 1) / E = Z at *
    omega
  have hw3 : IntKind.i64.wrap v = v := IntWalk.i64_in _ (by omega)
  replace hE := Lib.hid hE
  by_cases hF : firstF r.spots.toNat (paleU r l) ≤ 100000
  · rw [if_pos hF] at hu
    have hp := Lib.hid (fun W h => pale_yes14 r hok l i0 i1 a hF W h)
    rw [← hu] at hp
    clear hok hu hEE hF
    obtain ⟨S, I, K⟩ := r
    go_enter Tryd.func30, Tryd.ntmps30
    have hE1 := hE.out.alloc (.cells #[.int .i64 S, .int .i64 I, .int .i64 K] 26)
    go_wp2_with fail
    refine (hp.out _ hE1).mono ?_
    rintro e w2 ⟨rfl, hb2⟩
    have hE2 := hE1.step hb2
    unfold ErrC at hE2
    replace hb2 := Lib.hid ((below_a1 w _).step hb2)
    go_wp2_with fail
    refine (isE_nil' a _).mono ?_
    rintro e w2' ⟨rfl, rfl⟩
    go_wp2
    go_ret
    exact ⟨rfl, hb2.out⟩
  · rw [if_neg hF] at hu
    have hp := Lib.hid (fun W h => pale_no14 r hok l i0 i1 a (by omega) W h)
    subst hu
    clear hok hEE hF
    obtain ⟨S, I, K⟩ := r
    simp only [show ((100001 : Nat) : Int) = 100001 from rfl] at *
    go_enter Tryd.func30, Tryd.ntmps30
    have hE1 := hE.out.alloc (.cells #[.int .i64 S, .int .i64 I, .int .i64 K] 26)
    go_wp2_with fail
    refine (hp.out _ hE1).mono ?_
    rintro e w2 ⟨rfl, hb2⟩
    have hE2 := hE1.step hb2
    unfold ErrC at hE2
    replace hb2 := Lib.hid ((below_a1 w _).step hb2)
    go_wp2_with fail
    refine (isE_same' a _).mono ?_
    rintro e w2' ⟨rfl, rfl⟩
    go_wp2
    go_ret
    exact ⟨rfl, hb2.out⟩
set_option maxHeartbeats 1600000 in
theorem rf14_impl (a : Addr) (r : RibbonD) (n l : Int) (w : World) (hg : r.good) (hwn : (Lit.int .i64 n).wf = true) (hwl : (Lit.int .i64 l).wf = true) (hE : ErrC a w) :
    Calls Tryd.prog 11 #[.agg #[.int .i64 r.spots, .int .i64 r.ink, .int .i64 r.takes], .int .i64 n, .int .i64 l] w fun e w' => e = .returned (.tuple #[.int .i64 (rfR14 r n l).1, .int .i64 (rfR14 r n l).2]) ∧ Below w.heap.size w w' := by
  clear hg hwn hwl
  generalize hr : rfR14 r n l = q
  replace hr := Lib.hid hr.symm
  by_cases h1 : rcC r n = 0
  · have hc := Lib.hid (fun W => code14i r n h1 W)
    obtain ⟨hok, h0, h3⟩ := rcC_ok h1
    cases h2 : inR l 1 r.ink with
    | false =>
      have hb : Hid (q = (0, 2)) := Lib.hid (by rw [hr.out, rfR14, rlC, if_pos hok, h2]; rfl)
      clear hr h1 hok
      obtain ⟨S, I, K⟩ := r
      simp only at h2
      replace h2 := Lib.hid h2
      go_enter Tryd.func11, Tryd.ntmps11
      go_wp2_with fail
      refine (hc.out _).mono ?_
      rintro e w1 ⟨rfl, hb1⟩
      obtain ⟨q0, q1, q2⟩ := (Box3r.new w _ (.int .i64 S) (.int .i64 I) (.int .i64 K)).step hb1
      go_wp2_with fail
      refine (in8_impl h2.out _).mono ?_
      rintro e w1' ⟨rfl, rfl⟩
      go_wp2
      go_ret2
      exact ⟨ret8_2 hb.out, (below_a1 _ _).step hb1⟩
    | true =>
      obtain ⟨i0, i1⟩ := inR_iff.1 h2
      have hl : rlC r l = 0 := by rw [rlC, if_pos hok, if_pos h2]
      have hb : Hid (q = (manyV r n l, 0)) := Lib.hid (by rw [hr.out, rfR14, if_pos hl, if_pos h1])
      have hp := Lib.hid (fun W h => need14i a r hok n l h0 h3 i0 i1 rfl W h)
      generalize manyV r n l = v at *
      clear hr h1 hok hl
      obtain ⟨S, I, K⟩ := r
      simp only at h2
      replace h2 := Lib.hid h2
      replace hE := Lib.hid hE
      go_enter Tryd.func11, Tryd.ntmps11
      go_wp2_with fail
      refine (hc.out _).mono ?_
      rintro e w1 ⟨rfl, hb1⟩
      obtain ⟨q0, q1, q2⟩ := (Box3r.new w _ (.int .i64 S) (.int .i64 I) (.int .i64 K)).step hb1
      have hbz := Lib.hid ((below_a1 w _).step hb1)
      clear hb1
      go_wp2_with fail
      refine (in8_impl h2.out _).mono ?_
      rintro e w1' ⟨rfl, rfl⟩
      go_wp2_with fail
      refine (hp.out _ (hE.out.step hbz.out)).mono ?_
      rintro e w2 ⟨rfl, hb2⟩
      replace hbz := Lib.hid (hbz.out.step hb2)
      clear hb2 q0 q1 q2
      go_wp2
      go_ret2
      exact ⟨ret8_2 hb.out, hbz.out⟩
  · have hb : Hid (q = (0, rcC r n)) := Lib.hid (by
      rw [hr.out, rfR14]
      by_cases hl : rlC r l = 0
      · rw [if_pos hl, if_neg h1]
      · rw [if_neg hl]
        unfold rlC rcC at *
        by_cases hok : rbB r = true
        · rw [if_pos hok] at *
          by_cases hi : inR l 1 r.ink = true
          · rw [if_pos hi] at hl; exact absurd rfl hl
          · by_cases hj : inR n 0 100000 = true
            · rw [if_pos hj] at h1; exact absurd rfl h1
            · rw [if_neg hi, if_neg hj, if_pos hok]
        · rw [if_neg hok, if_neg hok])
    have hc := Lib.hid (fun W => code14i r n rfl W)
    generalize rcC r n = g at *
    have y1 : (g == 0) = false := beq_eq_false_iff_ne.2 h1
    have y2 : (g != 0) = true := by rw [bne, y1]; rfl
    clear hr h1
    obtain ⟨S, I, K⟩ := r
    go_enter Tryd.func11, Tryd.ntmps11
    go_wp2_with fail
    refine (hc.out _).mono ?_
    rintro e w1 ⟨rfl, hb1⟩
    go_wp2
    go_ret2
    exact ⟨ret8_2 hb.out, (below_a1 _ _).step hb1⟩
end Go.Proofs.YtceedmejmmoepaaDoor
