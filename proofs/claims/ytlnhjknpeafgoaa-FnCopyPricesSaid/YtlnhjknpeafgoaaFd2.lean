/- The law FnCopyPrices as one call: for every input it returns true. -/
import Derived.Test.YtlnhjknpeafgoaaFd1
import Derived.Test.YtlnhjknpeafgoaaCq6
namespace Go.Proofs.Ytlnhjknpeafgoaa
open Go.RowKit Go.ChangeShapes Go.WideShapes Go.Deep
set_option linter.unusedVariables false
set_option linter.unusedSimpArgs false

theorem cheap_least (c : CarbonD) (x : WaysD) (N : Int) : ∀ j, (∀ k, k ≤ j → (cheapV c x N j).2 ≤ priceV c x N k) ∧ (∀ k, k < (cheapV c x N j).1 → (cheapV c x N j).2 < priceV c x N k)
  | 0 => ⟨fun k hk => by obtain rfl : k = 0 := by omega
                         exact Int.le_refl _, fun k hk => absurd hk (Nat.not_lt_zero _)⟩
  | j + 1 => by
    obtain ⟨h1, h2⟩ := cheap_least c x N j
    obtain ⟨h3, h4⟩ := cheapV_le c x N j
    rw [cheapV]
    by_cases h : priceV c x N (j + 1) < (cheapV c x N j).2
    · rw [if_pos h]
      refine ⟨fun k hk => ?_, fun k hk => ?_⟩
      · rcases Nat.lt_or_ge k (j + 1) with h5 | h5
        · have := h1 k (by omega)
          simp only
          omega
        · obtain rfl : k = j + 1 := by omega
          exact Int.le_refl _
      · have := h1 k (by simp only at hk; omega)
        simp only
        omega
    · rw [if_neg h]
      refine ⟨fun k hk => ?_, h2⟩
      rcases Nat.lt_or_ge k (j + 1) with h5 | h5
      · exact h1 k (by omega)
      · obtain rfl : k = j + 1 := by omega
        omega
theorem sten_first (c : CarbonD) (x : WaysD) : ∀ (f n m : Nat), stenF c x f n = some m → n ≤ m ∧ m < n + f ∧ steV x (m : Int) < carV c x (m : Int) ∧ ∀ j, n ≤ j → j < m → ¬ steV x (j : Int) < carV c x (j : Int)
  | 0, n, m, h => by rw [stenF] at h; cases h
  | f + 1, n, m, h => by
    rw [stenF] at h
    by_cases hl : steV x (n : Int) < carV c x (n : Int)
    · rw [if_pos hl] at h
      cases h
      exact ⟨Nat.le_refl _, by omega, hl, fun j h1 h2 => by omega⟩
    · rw [if_neg hl] at h
      obtain ⟨h1, h2, h3, h4⟩ := sten_first c x f (n + 1) m h
      refine ⟨by omega, by omega, h3, fun j h5 h6 => ?_⟩
      rcases Nat.lt_or_ge n j with h7 | h7
      · exact h4 j h7 h6
      · obtain rfl : j = n := by omega
        exact hl
set_option maxRecDepth 100000 in
set_option maxHeartbeats 4000000 in
theorem fnCopyPrices_any (A0 : Option Addr) (n0 c0 : Nat) (xs0 : List Int) (A1 : Option Addr) (n1 c1 : Nat) (xs1 : List Int) (w : World) (h0 : n0 ≤ maxLen ∧ Bytes w A0 n0 xs0 ∧ ∀ x ∈ xs0, byteGood x) (h1 : n1 ≤ maxLen ∧ Bytes w A1 n1 xs1 ∧ ∀ x ∈ xs1, byteGood x) :
    Calls Try.prog 4 #[.slice A0 n0 c0, .slice A1 n1 c1] w fun e w' => e = .returned (.bool true) ∧ Below w.heap.size w w' := by
  obtain ⟨hm0, P0, hg0⟩ := h0
  obtain ⟨hm1, P1, hg1⟩ := h1
  have hlong := Lib.hid (fun W => a2long_any A0 n0 c0 A1 n1 c1 W hm0 hm1)
  have hca := Lib.hid (a2carb_any A0 n0 c0 xs0 w hm0 P0 hg0)
  have hwa := Lib.hid (fun (W : World) (hb : Below w.heap.size w W) => a2ways_any A1 n1 c1 xs1 W hm1 (P1.below hb) hg1)
  have hat := Lib.hid (fun (i m : Nat) (hi : i ≤ 100) (hx : 1 ≤ m) (hy : m ≤ 1000) (W : World) (hb : Below w.heap.size w W) => a2atN A1 n1 c1 i m hi hx hy xs1 W hm1 (P1.below hb) hg1)
  clear P0 hg0 P1 hg1 hm0 hm1
  generalize hlv : (decide (3000 < n0) || decide (3000 < n1)) = lv at *
  clear hlv
  cases lv with
  | true =>
    go_enter Try.func4, Try.ntmps4
    go_wp2_with fail
    refine (hlong.out _).mono ?_
    rintro e w1 ⟨rfl, rfl⟩
    go_wp2
    go_ret
    exact ⟨rfl, Below.refl _ _⟩
  | false =>
    go_enter Try.func4, Try.ntmps4
    go_wp2_with fail
    refine (hlong.out _).mono ?_
    rintro e w1 ⟨rfl, rfl⟩
    go_wp2_with fail
    refine hca.out.mono ?_
    rintro e w1 ⟨⟨F, L, E⟩, hok, hF, hL, rfl, hb⟩
    simp only at hF hL
    have hbw1 := hb.alloc hb.size (.cells #[.int .i64 F, .int .i64 L, .int .i64 E] 25)
    have hzw := hb.size
    clear hb hca hlong
    have hwa1 := Lib.hid (hwa.out _ hbw1)
    go_wp2_with fail
    refine hwa1.out.mono ?_
    rintro e w2 ⟨⟨a, b, s, p⟩, hox, rfl, hb⟩
    simp only
    have q0 := cell_on (cell_step (cell_new (w := w1) (t := 25) (cs := #[.int .i64 F, .int .i64 L, .int .i64 E]) (o := 0) rfl rfl) hb) (.cells #[.int .i64 a, .int .i64 b, .int .i64 s, .int .i64 p] 32)
    have q1 := cell_on (cell_step (cell_new (w := w1) (t := 25) (cs := #[.int .i64 F, .int .i64 L, .int .i64 E]) (o := 1) rfl rfl) hb) (.cells #[.int .i64 a, .int .i64 b, .int .i64 s, .int .i64 p] 32)
    have q2 := cell_on (cell_step (cell_new (w := w1) (t := 25) (cs := #[.int .i64 F, .int .i64 L, .int .i64 E]) (o := 2) rfl rfl) hb) (.cells #[.int .i64 a, .int .i64 b, .int .i64 s, .int .i64 p] 32)
    have r0 : (w2.alloc (.cells #[.int .i64 a, .int .i64 b, .int .i64 s, .int .i64 p] 32)).cell? ⟨w2.heap.size, 0, none⟩ = some (.int .i64 a) := cell_new rfl rfl
    have r1 : (w2.alloc (.cells #[.int .i64 a, .int .i64 b, .int .i64 s, .int .i64 p] 32)).cell? ⟨w2.heap.size, 1, none⟩ = some (.int .i64 b) := cell_new rfl rfl
    have r2 : (w2.alloc (.cells #[.int .i64 a, .int .i64 b, .int .i64 s, .int .i64 p] 32)).cell? ⟨w2.heap.size, 2, none⟩ = some (.int .i64 s) := cell_new rfl rfl
    have r3 : (w2.alloc (.cells #[.int .i64 a, .int .i64 b, .int .i64 s, .int .i64 p] 32)).cell? ⟨w2.heap.size, 3, none⟩ = some (.int .i64 p) := cell_new rfl rfl
    have hbw2 := hbw1.step hb
    have hbw := hbw2.alloc hbw2.size (.cells #[.int .i64 a, .int .i64 b, .int .i64 s, .int .i64 p] 32)
    clear hb hbw1 hbw2 hwa hwa1
    have hltC := World.block_lt_of_cell? _ _ q0
    have hltX := World.block_lt_of_cell? _ _ r0
    simp only at hltC hltX
    have ha1 := Lib.hid (hat.out 20 60 (by omega) (by omega) (by omega) _ hbw)
    go_wp2_with fail
    refine ha1.out.mono ?_
    rintro e w3 ⟨⟨N, hN, rfl⟩, rfl⟩
    obtain ⟨⟨v0, v1⟩, ⟨v2, v3⟩, v4, v5⟩ := caB_iff.1 hok
    simp only at v0 v1 v2 v3 v4 v5
    obtain ⟨⟨u0, u1⟩, ⟨u2, u3⟩, ⟨u4, u5⟩, u6, u7⟩ := waB_iff.1 hox
    simp only at u0 u1 u2 u3 u4 u5 u6 u7
    have hcg : (⟨F, L, E⟩ : CarbonD).good := ⟨good_wf (by simp only; omega) (by simp only; omega), good_wf (by simp only; omega) (by simp only; omega), good_wf (by simp only; omega) (by simp only; omega)⟩
    have hxg : (⟨a, b, s, p⟩ : WaysD).good := ⟨good_wf (by simp only; omega) (by simp only; omega), good_wf (by simp only; omega) (by simp only; omega), good_wf (by simp only; omega) (by simp only; omega), good_wf (by simp only; omega) (by simp only; omega)⟩
    have hcp0 : ∀ k : Int, 0 ≤ k → k ≤ 500 → cpC ⟨F, L, E⟩ ⟨a, b, s, p⟩ k = 0 := fun k h0 h1 => by rw [cpC, hok, hox, if_pos (by rfl), if_pos (inR_iff.2 ⟨h0, h1⟩)]
    have hcar := Lib.hid (fun (k : Int) (h0 : 0 ≤ k) (h1 : k ≤ 500) W => cp13_impl ⟨F, L, E⟩ ⟨a, b, s, p⟩ k W hcg hxg (good_wf (by omega) (by omega)))
    have hcpr : ∀ k : Int, 0 ≤ k → k ≤ 500 → cpR ⟨F, L, E⟩ ⟨a, b, s, p⟩ k = (carV ⟨F, L, E⟩ ⟨a, b, s, p⟩ k, 0) := fun k h0 h1 => by rw [cpR, if_pos (hcp0 k h0 h1)]
    have hchp := Lib.hid (fun W => cc13_impl ⟨F, L, E⟩ ⟨a, b, s, p⟩ (N : Int) W hcg hxg (good_wf (by omega) (by omega)))
    have hccr : ccR ⟨F, L, E⟩ ⟨a, b, s, p⟩ (N : Int) = (((cheapV ⟨F, L, E⟩ ⟨a, b, s, p⟩ (N : Int) N).1 : Int), (N : Int) - ((cheapV ⟨F, L, E⟩ ⟨a, b, s, p⟩ (N : Int) N).1 : Int), (cheapV ⟨F, L, E⟩ ⟨a, b, s, p⟩ (N : Int) N).2, 0) := by rw [ccR, if_pos (hcp0 _ (by omega) (by omega))]; rfl
    rw [hccr] at hchp
    have hsf := Lib.hid (fun W => sf13_impl ⟨F, L, E⟩ ⟨a, b, s, p⟩ W hcg hxg)
    have hsfr : sfR13 ⟨F, L, E⟩ ⟨a, b, s, p⟩ = (match stenF ⟨F, L, E⟩ ⟨a, b, s, p⟩ 500 1 with | some n => ((n : Int), 0) | none => (0, 3)) := by rw [sfR13, hok, hox]; rfl
    rw [hsfr] at hsf
    obtain ⟨hl1, hl2⟩ := cheap_least ⟨F, L, E⟩ ⟨a, b, s, p⟩ (N : Int) N
    obtain ⟨hl3, hl4⟩ := cheapV_le ⟨F, L, E⟩ ⟨a, b, s, p⟩ (N : Int) N
    have hrgc := Lib.hid (fun (k : Int) (h0 : 0 ≤ k) (h1 : k ≤ 500) => carV_range hok hox h0 h1)
    have hrgs := Lib.hid (fun (k : Int) (h0 : 0 ≤ k) (h1 : k ≤ 500) => steV_range hox h0 h1)
    have hsf1 := Lib.hid (fun m => sten_first ⟨F, L, E⟩ ⟨a, b, s, p⟩ 500 1 m)
    have hprc := Lib.hid (fun (k : Nat) => show priceV ⟨F, L, E⟩ ⟨a, b, s, p⟩ (N : Int) k = carV ⟨F, L, E⟩ ⟨a, b, s, p⟩ (k : Int) + steV ⟨a, b, s, p⟩ ((N : Int) - (k : Int)) from rfl)
    have hste := Lib.hid (fun (k : Int) => show steV ⟨a, b, s, p⟩ k = if k = 0 then 0 else s + k * p from rfl)
    have hcc := Lib.hid (fun (k : Int) (h0 : 0 ≤ k) (h1 : k ≤ 500) => show 0 ≤ carV ⟨F, L, E⟩ ⟨a, b, s, p⟩ k ∧ carV ⟨F, L, E⟩ ⟨a, b, s, p⟩ k ≤ 10000000 by have := carV_range hok hox h0 h1; unfold carV; omega)
    clear hok hox hccr hsfr hcp0
    have hcar2 : Hid (∀ (k : Int) (h0 : 0 ≤ k) (h1 : k ≤ 500) (W : World), Calls Try.prog 14 #[.agg #[.int .i64 F, .int .i64 L, .int .i64 E], .agg #[.int .i64 a, .int .i64 b, .int .i64 s, .int .i64 p], .int .i64 k] W fun e w' => e = .returned (.tuple #[.int .i64 (carV ⟨F, L, E⟩ ⟨a, b, s, p⟩ k), .int .i64 0]) ∧ Below W.heap.size W w') := Lib.hid (fun k h0 h1 W => by have := hcar.out k h0 h1 W; rw [hcpr k h0 h1] at this; exact this)
    clear hcar hcpr hrgc
    generalize cheapV ⟨F, L, E⟩ ⟨a, b, s, p⟩ (N : Int) N = P at *
    obtain ⟨bk, bp⟩ := P
    simp only at hchp hl1 hl2 hl3 hl4 hrgs
    generalize carV ⟨F, L, E⟩ ⟨a, b, s, p⟩ = CV at *
    generalize steV ⟨a, b, s, p⟩ = SV at *
    generalize priceV ⟨F, L, E⟩ ⟨a, b, s, p⟩ (N : Int) = PV at *
    generalize stenF ⟨F, L, E⟩ ⟨a, b, s, p⟩ 500 1 = SF at *
    replace hl1 := Lib.hid hl1
    replace hl2 := Lib.hid hl2
    replace hl4 := Lib.hid hl4
    have g0 : decide ((bk : Int) < 0) = false := decide_eq_false (by omega)
    have g1 : decide ((N : Int) - (bk : Int) < 0) = false := decide_eq_false (by omega)
    have hw0 : IntKind.i64.wrap ((bk : Int) + ((N : Int) - (bk : Int))) = (N : Int) := by rw [IntWalk.i64_in _ (by omega)]; omega
    have g2 : ((N : Int) == (N : Int)) = true := beq_iff_eq.2 rfl
    have g3 : ((N : Int) != (N : Int)) = false := by rw [bne, g2]; rfl
    go_wp2_with fail
    refine (hchp.out _).mono ?_
    rintro e w4 ⟨rfl, hb⟩
    replace q0 := cell_step q0 hb
    replace q1 := cell_step q1 hb
    replace q2 := cell_step q2 hb
    replace r0 := cell_step r0 hb
    replace r1 := cell_step r1 hb
    replace r2 := cell_step r2 hb
    replace r3 := cell_step r3 hb
    replace hbw := hbw.step hb
    clear hb
    have hltC := World.block_lt_of_cell? _ _ q0
    have hltX := World.block_lt_of_cell? _ _ r0
    simp only at hltC hltX
    go_wp2
    go_loopw [4, 12] (fun _ i wr => ∃ k : Nat, k ≤ N + 1 ∧ i = .int .i64 (k : Int) ∧ wr.cell? ⟨w1.heap.size, 0, none⟩ = some (.int .i64 F) ∧ wr.cell? ⟨w1.heap.size, 1, none⟩ = some (.int .i64 L) ∧ wr.cell? ⟨w1.heap.size, 2, none⟩ = some (.int .i64 E) ∧ wr.cell? ⟨w2.heap.size, 0, none⟩ = some (.int .i64 a) ∧ wr.cell? ⟨w2.heap.size, 1, none⟩ = some (.int .i64 b) ∧ wr.cell? ⟨w2.heap.size, 2, none⟩ = some (.int .i64 s) ∧ wr.cell? ⟨w2.heap.size, 3, none⟩ = some (.int .i64 p) ∧ Below w.heap.size w wr) (fun _ i _ => (N + 1 - intOf i).toNat)
    case atStart => exact ⟨0, by omega, rfl, q0, q1, q2, r0, r1, r2, r3, hbw⟩
    case round =>
      clear q0 q1 q2 r0 r1 r2 r3 hbw hltC hltX
      rename World => wr
      obtain ⟨k, hk, rfl, q0, q1, q2, r0, r1, r2, r3, hbw⟩ := hrel
      have hltC := World.block_lt_of_cell? _ _ q0
      have hltX := World.block_lt_of_cell? _ _ r0
      simp only at hltC hltX
      by_cases hlt : k ≤ N
      · have h1 : decide ((k : Int) ≤ (N : Int)) = true := decide_eq_true (by omega)
        have hc1 := Lib.hid (hcar2.out (k : Int) (by omega) (by omega))
        obtain ⟨cc0, cc1⟩ := hcc.out (k : Int) (by omega) (by omega)
        have hp1 := hprc.out k
        have hs1 := hste.out ((N : Int) - (k : Int))
        have hle := hl1.out k hlt
        have hlk := hl2.out k
        have hbe := hl4.out
        obtain ⟨ss0, ss1⟩ := hrgs.out ((N : Int) - (k : Int)) (by omega) (by omega)
        have hwk : IntKind.i64.wrap ((k : Int) + 1) = ((k + 1 : Nat) : Int) := by rw [IntWalk.i64_in _ (by omega)]; omega
        have hkb := Lib.hid (show k = bk → PV k = bp from fun h => by rw [h]; exact hbe.symm)
        clear hbe
        replace hlk := Lib.hid hlk
        generalize CV (k : Int) = C1 at *
        generalize SV ((N : Int) - (k : Int)) = S1 at *
        generalize PV k = P1 at *
        obtain ⟨M, hM⟩ : ∃ M, ((N : Int) - (k : Int)) * p = M := ⟨_, rfl⟩
        rw [hM] at hs1 ss0 ss1
        have ht1 : decide (P1 < bp) = false := decide_eq_false (by omega)
        replace hle := Lib.hid hle
        by_cases hkN : k < N
        · have h2 : decide ((k : Int) < (N : Int)) = true := decide_eq_true (by omega)
          have hkn0 : ¬ ((N : Int) - (k : Int)) = 0 := by omega
          rw [if_neg hkn0] at hs1
          have hw1 : IntKind.i64.wrap ((N : Int) - (k : Int)) = (N : Int) - (k : Int) := IntWalk.i64_in _ (by omega)
          have hw2 : IntKind.i64.wrap (((N : Int) - (k : Int)) * p) = M := by rw [hM]; exact IntWalk.i64_in _ (by omega)
          have hw3 : IntKind.i64.wrap (s + M) = S1 := by rw [← hs1]; exact IntWalk.i64_in _ (by omega)
          have hw4 : IntKind.i64.wrap (C1 + S1) = P1 := by rw [← hp1]; exact IntWalk.i64_in _ (by omega)
          replace hM := Lib.hid hM
          replace hs1 := Lib.hid hs1
          replace hp1 := Lib.hid hp1
          replace hkn0 := Lib.hid hkn0
          rcases Nat.lt_trichotomy k bk with hkb1 | hkb1 | hkb1
          · have z1 : ((k : Int) == (bk : Int)) = false := beq_eq_false_iff_ne.2 (by omega)
            have z2 : (k == bk) = false := beq_eq_false_iff_ne.2 (by omega)
            have z3 : decide ((k : Int) < (bk : Int)) = true := decide_eq_true (by omega)
            have z4 : (P1 == bp) = false := beq_eq_false_iff_ne.2 (by have := hlk.out hkb1; omega)
            have z6 : ¬ P1 = bp := by have := hlk.out hkb1; omega
            have z7 : ¬ k = bk := by omega
            go_wp2_with fail
            refine (hc1.out _).mono ?_
            rintro e w5 ⟨rfl, hb⟩
            replace q0 := cell_step q0 hb
            replace q1 := cell_step q1 hb
            replace q2 := cell_step q2 hb
            replace r0 := cell_step r0 hb
            replace r1 := cell_step r1 hb
            replace r2 := cell_step r2 hb
            replace r3 := cell_step r3 hb
            replace hbw := hbw.step hb
            clear hb
            have hltC := World.block_lt_of_cell? _ _ q0
            have hltX := World.block_lt_of_cell? _ _ r0
            simp only at hltC hltX
            have hHn := Lib.hid (And.intro q0 (And.intro q1 (And.intro q2 (And.intro r0 (And.intro r1 (And.intro r2 (And.intro r3 hbw)))))))
            clear q0 q1 q2
            go_wp2
            go_roundw
            case rel => exact ⟨k + 1, by omega, by go_num, hHn.out⟩
            case measure => simp [intOf]; omega
          · have z1 : ((k : Int) == (bk : Int)) = true := beq_iff_eq.2 (by omega)
            have z2 : (k == bk) = true := beq_iff_eq.2 hkb1
            have z3 : decide ((k : Int) < (bk : Int)) = false := decide_eq_false (by omega)
            have z4 : (P1 == bp) = true := beq_iff_eq.2 (hkb.out hkb1)
            have z5 : (P1 != bp) = false := by rw [bne, z4]; rfl
            have z7 : ¬ k < bk := by omega
            replace hkb1 := Lib.hid hkb1
            go_wp2_with fail
            refine (hc1.out _).mono ?_
            rintro e w5 ⟨rfl, hb⟩
            replace q0 := cell_step q0 hb
            replace q1 := cell_step q1 hb
            replace q2 := cell_step q2 hb
            replace r0 := cell_step r0 hb
            replace r1 := cell_step r1 hb
            replace r2 := cell_step r2 hb
            replace r3 := cell_step r3 hb
            replace hbw := hbw.step hb
            clear hb
            have hltC := World.block_lt_of_cell? _ _ q0
            have hltX := World.block_lt_of_cell? _ _ r0
            simp only at hltC hltX
            have hHn := Lib.hid (And.intro q0 (And.intro q1 (And.intro q2 (And.intro r0 (And.intro r1 (And.intro r2 (And.intro r3 hbw)))))))
            clear q0 q1 q2
            go_wp2
            go_roundw
            case rel => exact ⟨k + 1, by omega, by go_num, hHn.out⟩
            case measure => simp [intOf]; omega
          · have z1 : ((k : Int) == (bk : Int)) = false := beq_eq_false_iff_ne.2 (by omega)
            have z2 : (k == bk) = false := beq_eq_false_iff_ne.2 (by omega)
            have z3 : decide ((k : Int) < (bk : Int)) = false := decide_eq_false (by omega)
            have z6 : ¬ k < bk := by omega
            have z7 : ¬ k = bk := by omega
            replace hkb1 := Lib.hid hkb1
            go_wp2_with fail
            refine (hc1.out _).mono ?_
            rintro e w5 ⟨rfl, hb⟩
            replace q0 := cell_step q0 hb
            replace q1 := cell_step q1 hb
            replace q2 := cell_step q2 hb
            replace r0 := cell_step r0 hb
            replace r1 := cell_step r1 hb
            replace r2 := cell_step r2 hb
            replace r3 := cell_step r3 hb
            replace hbw := hbw.step hb
            clear hb
            have hltC := World.block_lt_of_cell? _ _ q0
            have hltX := World.block_lt_of_cell? _ _ r0
            simp only at hltC hltX
            have hHn := Lib.hid (And.intro q0 (And.intro q1 (And.intro q2 (And.intro r0 (And.intro r1 (And.intro r2 (And.intro r3 hbw)))))))
            clear q0 q1 q2
            go_wp2
            go_roundw
            case rel => exact ⟨k + 1, by omega, by go_num, hHn.out⟩
            case measure => simp [intOf]; omega
        · have h2 : decide ((k : Int) < (N : Int)) = false := decide_eq_false (by omega)
          have hkn0 : ((N : Int) - (k : Int)) = 0 := by omega
          rw [if_pos hkn0] at hs1
          have hCP : C1 = P1 := by omega
          subst hCP
          replace hM := Lib.hid hM
          replace hs1 := Lib.hid hs1
          replace hp1 := Lib.hid hp1
          replace hkn0 := Lib.hid hkn0
          rcases Nat.lt_trichotomy k bk with hkb1 | hkb1 | hkb1
          · have z1 : ((k : Int) == (bk : Int)) = false := beq_eq_false_iff_ne.2 (by omega)
            have z2 : (k == bk) = false := beq_eq_false_iff_ne.2 (by omega)
            have z3 : decide ((k : Int) < (bk : Int)) = true := decide_eq_true (by omega)
            have z4 : (C1 == bp) = false := beq_eq_false_iff_ne.2 (by have := hlk.out hkb1; omega)
            have z6 : ¬ C1 = bp := by have := hlk.out hkb1; omega
            have z7 : ¬ k = bk := by omega
            go_wp2_with fail
            refine (hc1.out _).mono ?_
            rintro e w5 ⟨rfl, hb⟩
            replace q0 := cell_step q0 hb
            replace q1 := cell_step q1 hb
            replace q2 := cell_step q2 hb
            replace r0 := cell_step r0 hb
            replace r1 := cell_step r1 hb
            replace r2 := cell_step r2 hb
            replace r3 := cell_step r3 hb
            replace hbw := hbw.step hb
            clear hb
            have hltC := World.block_lt_of_cell? _ _ q0
            have hltX := World.block_lt_of_cell? _ _ r0
            simp only at hltC hltX
            have hHn := Lib.hid (And.intro q0 (And.intro q1 (And.intro q2 (And.intro r0 (And.intro r1 (And.intro r2 (And.intro r3 hbw)))))))
            clear q0 q1 q2
            go_wp2
            go_roundw
            case rel => exact ⟨k + 1, by omega, by go_num, hHn.out⟩
            case measure => simp [intOf]; omega
          · have z1 : ((k : Int) == (bk : Int)) = true := beq_iff_eq.2 (by omega)
            have z2 : (k == bk) = true := beq_iff_eq.2 hkb1
            have z3 : decide ((k : Int) < (bk : Int)) = false := decide_eq_false (by omega)
            have z4 : (C1 == bp) = true := beq_iff_eq.2 (hkb.out hkb1)
            have z5 : (C1 != bp) = false := by rw [bne, z4]; rfl
            have z7 : ¬ k < bk := by omega
            replace hkb1 := Lib.hid hkb1
            go_wp2_with fail
            refine (hc1.out _).mono ?_
            rintro e w5 ⟨rfl, hb⟩
            replace q0 := cell_step q0 hb
            replace q1 := cell_step q1 hb
            replace q2 := cell_step q2 hb
            replace r0 := cell_step r0 hb
            replace r1 := cell_step r1 hb
            replace r2 := cell_step r2 hb
            replace r3 := cell_step r3 hb
            replace hbw := hbw.step hb
            clear hb
            have hltC := World.block_lt_of_cell? _ _ q0
            have hltX := World.block_lt_of_cell? _ _ r0
            simp only at hltC hltX
            have hHn := Lib.hid (And.intro q0 (And.intro q1 (And.intro q2 (And.intro r0 (And.intro r1 (And.intro r2 (And.intro r3 hbw)))))))
            clear q0 q1 q2
            go_wp2
            go_roundw
            case rel => exact ⟨k + 1, by omega, by go_num, hHn.out⟩
            case measure => simp [intOf]; omega
          · have z1 : ((k : Int) == (bk : Int)) = false := beq_eq_false_iff_ne.2 (by omega)
            have z2 : (k == bk) = false := beq_eq_false_iff_ne.2 (by omega)
            have z3 : decide ((k : Int) < (bk : Int)) = false := decide_eq_false (by omega)
            have z6 : ¬ k < bk := by omega
            have z7 : ¬ k = bk := by omega
            replace hkb1 := Lib.hid hkb1
            go_wp2_with fail
            refine (hc1.out _).mono ?_
            rintro e w5 ⟨rfl, hb⟩
            replace q0 := cell_step q0 hb
            replace q1 := cell_step q1 hb
            replace q2 := cell_step q2 hb
            replace r0 := cell_step r0 hb
            replace r1 := cell_step r1 hb
            replace r2 := cell_step r2 hb
            replace r3 := cell_step r3 hb
            replace hbw := hbw.step hb
            clear hb
            have hltC := World.block_lt_of_cell? _ _ q0
            have hltX := World.block_lt_of_cell? _ _ r0
            simp only at hltC hltX
            have hHn := Lib.hid (And.intro q0 (And.intro q1 (And.intro q2 (And.intro r0 (And.intro r1 (And.intro r2 (And.intro r3 hbw)))))))
            clear q0 q1 q2
            go_wp2
            go_roundw
            case rel => exact ⟨k + 1, by omega, by go_num, hHn.out⟩
            case measure => simp [intOf]; omega
      · have h1 : decide ((k : Int) ≤ (N : Int)) = false := decide_eq_false (by omega)
        cases hSF : SF with
        | none =>
          rw [hSF] at hsf
          simp only at hsf
          go_wp2_with fail
          refine (hsf.out _).mono ?_
          rintro e w6 ⟨rfl, hb⟩
          have hbz := hbw.step hb
          clear hb
          go_wp2
          go_ret
          exact ⟨rfl, hbz⟩
        | some m =>
          rw [hSF] at hsf
          simp only at hsf
          obtain ⟨m1, m2, m3, m4⟩ := hsf1.out m hSF
          have hc2 := Lib.hid (hcar2.out (m : Int) (by omega) (by omega))
          have hc3 := Lib.hid (hcar2.out ((m : Int) - 1) (by omega) (by omega))
          have hst1 := hste.out (m : Int)
          rw [if_neg (by omega)] at hst1
          obtain ⟨t0, t1⟩ := hrgs.out (m : Int) (by omega) (by omega)
          obtain ⟨M, hM⟩ : ∃ M, (m : Int) * p = M := ⟨_, rfl⟩
          rw [hM] at hst1 t0 t1
          rw [hst1] at m3
          have hprev : m = 1 ∨ CV ((m : Int) - 1) ≤ s + ((m : Int) - 1) * p := by
            rcases Nat.lt_or_ge 1 m with h9 | h9
            · right
              have h8 := m4 (m - 1) (by omega) (by omega)
              rw [show ((m - 1 : Nat) : Int) = (m : Int) - 1 by omega, hste.out ((m : Int) - 1), if_neg (by omega)] at h8
              omega
            · exact .inl (by omega)
          obtain ⟨t2, t3⟩ := hrgs.out ((m : Int) - 1) (by omega) (by omega)
          generalize CV (m : Int) = C2 at *
          generalize CV ((m : Int) - 1) = C3 at *
          obtain ⟨M3, hM3⟩ : ∃ M3, ((m : Int) - 1) * p = M3 := ⟨_, rfl⟩
          rw [hM3] at hprev t2 t3
          have hw1 : IntKind.i64.wrap ((m : Int) * p) = M := by rw [hM]; exact IntWalk.i64_in _ (by omega)
          have hw2 : IntKind.i64.wrap (s + M) = s + M := IntWalk.i64_in _ (by omega)
          have hw3 : IntKind.i64.wrap ((m : Int) - 1) = (m : Int) - 1 := IntWalk.i64_in _ (by omega)
          have hw4 : IntKind.i64.wrap (((m : Int) - 1) * p) = M3 := by rw [hM3]; exact IntWalk.i64_in _ (by omega)
          have hw5 : IntKind.i64.wrap (s + M3) = s + M3 := IntWalk.i64_in _ (by omega)
          have y1 : decide ((m : Int) < 1) = false := decide_eq_false (by omega)
          have y2 : decide ((500 : Int) < (m : Int)) = false := decide_eq_false (by omega)
          have y3 : decide (s + M < C2) = true := decide_eq_true m3
          replace hM := Lib.hid hM
          replace hM3 := Lib.hid hM3
          replace hst1 := Lib.hid hst1
          clear m4
          by_cases hm1 : m = 1
          · have y4 : ((m : Int) == 1) = true := beq_iff_eq.2 (by omega)
            have y5 : (m == 1) = true := beq_iff_eq.2 hm1
            replace hm1 := Lib.hid hm1
            go_wp2_with fail
            refine (hsf.out _).mono ?_
            rintro e w6 ⟨rfl, hb⟩
            replace q0 := cell_step q0 hb
            replace q1 := cell_step q1 hb
            replace q2 := cell_step q2 hb
            replace r0 := cell_step r0 hb
            replace r1 := cell_step r1 hb
            replace r2 := cell_step r2 hb
            replace r3 := cell_step r3 hb
            replace hbw := hbw.step hb
            clear hb
            have hltC := World.block_lt_of_cell? _ _ q0
            have hltX := World.block_lt_of_cell? _ _ r0
            simp only at hltC hltX
            go_wp2_with fail
            refine (hc2.out _).mono ?_
            rintro e w7 ⟨rfl, hb⟩
            replace q0 := cell_step q0 hb
            replace q1 := cell_step q1 hb
            replace q2 := cell_step q2 hb
            replace r0 := cell_step r0 hb
            replace r1 := cell_step r1 hb
            replace r2 := cell_step r2 hb
            replace r3 := cell_step r3 hb
            replace hbw := hbw.step hb
            clear hb
            have hltC := World.block_lt_of_cell? _ _ q0
            have hltX := World.block_lt_of_cell? _ _ r0
            simp only at hltC hltX
            go_wp2_with fail
            refine (hc3.out _).mono ?_
            rintro e w8 ⟨rfl, hb⟩
            replace q0 := cell_step q0 hb
            replace q1 := cell_step q1 hb
            replace q2 := cell_step q2 hb
            replace r0 := cell_step r0 hb
            replace r1 := cell_step r1 hb
            replace r2 := cell_step r2 hb
            replace r3 := cell_step r3 hb
            replace hbw := hbw.step hb
            clear hb
            have hltC := World.block_lt_of_cell? _ _ q0
            have hltX := World.block_lt_of_cell? _ _ r0
            simp only at hltC hltX
            go_wp2
            go_ret
            exact ⟨rfl, hbw⟩
          · have y4 : ((m : Int) == 1) = false := beq_eq_false_iff_ne.2 (by omega)
            have y5 : (m == 1) = false := beq_eq_false_iff_ne.2 hm1
            have y6 : decide (C3 ≤ s + M3) = true := decide_eq_true (hprev.resolve_left hm1)
            replace hm1 := Lib.hid hm1
            go_wp2_with fail
            refine (hsf.out _).mono ?_
            rintro e w6 ⟨rfl, hb⟩
            replace q0 := cell_step q0 hb
            replace q1 := cell_step q1 hb
            replace q2 := cell_step q2 hb
            replace r0 := cell_step r0 hb
            replace r1 := cell_step r1 hb
            replace r2 := cell_step r2 hb
            replace r3 := cell_step r3 hb
            replace hbw := hbw.step hb
            clear hb
            have hltC := World.block_lt_of_cell? _ _ q0
            have hltX := World.block_lt_of_cell? _ _ r0
            simp only at hltC hltX
            go_wp2_with fail
            refine (hc2.out _).mono ?_
            rintro e w7 ⟨rfl, hb⟩
            replace q0 := cell_step q0 hb
            replace q1 := cell_step q1 hb
            replace q2 := cell_step q2 hb
            replace r0 := cell_step r0 hb
            replace r1 := cell_step r1 hb
            replace r2 := cell_step r2 hb
            replace r3 := cell_step r3 hb
            replace hbw := hbw.step hb
            clear hb
            have hltC := World.block_lt_of_cell? _ _ q0
            have hltX := World.block_lt_of_cell? _ _ r0
            simp only at hltC hltX
            go_wp2_with fail
            refine (hc3.out _).mono ?_
            rintro e w8 ⟨rfl, hb⟩
            replace q0 := cell_step q0 hb
            replace q1 := cell_step q1 hb
            replace q2 := cell_step q2 hb
            replace r0 := cell_step r0 hb
            replace r1 := cell_step r1 hb
            replace r2 := cell_step r2 hb
            replace r3 := cell_step r3 hb
            replace hbw := hbw.step hb
            clear hb
            have hltC := World.block_lt_of_cell? _ _ q0
            have hltX := World.block_lt_of_cell? _ _ r0
            simp only at hltC hltX
            go_wp2
            go_ret
            exact ⟨rfl, hbw⟩
end Go.Proofs.Ytlnhjknpeafgoaa
