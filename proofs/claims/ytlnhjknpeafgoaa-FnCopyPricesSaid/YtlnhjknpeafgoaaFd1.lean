/- The law FnCopies as one call: for every input it returns true. -/
import Derived.Test.YtlnhjknpeafgoaaFd0
import Derived.Test.YtlnhjknpeafgoaaByteOpen
namespace Go.Proofs.Ytlnhjknpeafgoaa
open Go.RowKit Go.ChangeShapes Go.WideShapes Go.Deep
set_option linter.unusedVariables false
set_option linter.unusedSimpArgs false

theorem a2long_any (A : Option Addr) (n c : Nat) (B : Option Addr) (m d : Nat) (w : World) (hn : n ≤ maxLen) (hm : m ≤ maxLen) :
    Calls Try.prog 5 #[.slice A n c, .slice B m d] w fun e w' => e = .returned (.bool (decide (3000 < n) || decide (3000 < m))) ∧ w = w' := by
  by_cases h1 : 3000 < n
  · have g1 : decide ((3000 : Int) < (n : Int)) = true := decide_eq_true (by omega)
    rw [decide_eq_true h1, Bool.true_or]
    replace h1 := Lib.hid h1
    go_enter Try.func5, Try.ntmps5
    go_wp2
    go_ret
    exact ⟨rfl, rfl⟩
  · have g1 : decide ((3000 : Int) < (n : Int)) = false := decide_eq_false (by omega)
    rw [decide_eq_false h1, Bool.false_or]
    replace h1 := Lib.hid h1
    by_cases h2 : 3000 < m
    · have g2 : decide ((3000 : Int) < (m : Int)) = true := decide_eq_true (by omega)
      rw [decide_eq_true h2]
      replace h2 := Lib.hid h2
      go_enter Try.func5, Try.ntmps5
      go_wp2
      go_ret
      exact ⟨rfl, rfl⟩
    · have g2 : decide ((3000 : Int) < (m : Int)) = false := decide_eq_false (by omega)
      rw [decide_eq_false h2]
      replace h2 := Lib.hid h2
      go_enter Try.func5, Try.ntmps5
      go_wp2
      go_ret
      exact ⟨rfl, rfl⟩
theorem good_top {c : CarbonD} (h : caB c = true) : c.least ≤ max 0 (c.force - (goodV c - 1) * c.loss) := by
  obtain ⟨r1, r2, _⟩ := goodV_range h
  exact (good_step h (by omega)).2 (by omega)
theorem good_next {c : CarbonD} (h : caB c = true) (h2 : goodV c < 12) : max 0 (c.force - goodV c * c.loss) < c.least := by
  have := mt (good_step h h2).1 (by omega)
  omega
theorem force_in {c : CarbonD} (h : caB c = true) {k : Int} (h1 : 1 ≤ k) (h2 : k ≤ 12) (hf : c.least + (k - 1) * c.loss ≤ 1000) : caB ⟨c.least + (k - 1) * c.loss, c.loss, c.least⟩ = true := by
  obtain ⟨⟨a, b⟩, ⟨d, e⟩, f, g⟩ := caB_iff.1 h
  have := mul_in (a := k - 1) (b := c.loss) (A := 11) (B := 1000) (by omega) (by omega) (by omega) e
  exact caB_iff.2 (by simp only; omega)
theorem force_good {c : CarbonD} (h : caB c = true) {k : Int} (h1 : 1 ≤ k) (h2 : k ≤ 12) : goodV ⟨c.least + (k - 1) * c.loss, c.loss, c.least⟩ = k := by
  obtain ⟨⟨a, b⟩, ⟨d, e⟩, f, g⟩ := caB_iff.1 h
  unfold goodV
  simp only
  rw [show c.least + (k - 1) * c.loss - c.least = (k - 1) * c.loss by omega, Int.mul_tdiv_cancel _ (by omega)]
  omega
theorem force_less {c : CarbonD} (h : caB c = true) {k : Int} (h1 : 2 ≤ k) (h2 : k ≤ 12) (hf : c.least + (k - 1) * c.loss ≤ 1000) : caB ⟨c.least + (k - 1) * c.loss - 1, c.loss, c.least⟩ = true ∧ goodV ⟨c.least + (k - 1) * c.loss - 1, c.loss, c.least⟩ < k := by
  obtain ⟨⟨a, b⟩, ⟨d, e⟩, f, g⟩ := caB_iff.1 h
  have m1 := mul_in (a := k - 1) (b := c.loss) (A := 11) (B := 1000) (by omega) (by omega) (by omega) e
  have m2 : 1 * c.loss ≤ (k - 1) * c.loss := Int.mul_le_mul_of_nonneg_right (by omega) (by omega)
  refine ⟨caB_iff.2 (by simp only; omega), ?_⟩
  unfold goodV
  simp only
  have : ((c.least + (k - 1) * c.loss - 1 - c.least).tdiv c.loss) < k - 1 := by
    rw [show c.least + (k - 1) * c.loss - 1 - c.least = (k - 1) * c.loss - 1 by omega, Int.tdiv_eq_ediv_of_nonneg (by omega)]
    exact Int.ediv_lt_of_lt_mul (by omega) (by omega)
  omega
theorem typ_just {c : CarbonD} (h : caB c = true) {m : Int} (h0 : 0 ≤ m) : m ≤ typV c m * goodV c ∧ (typV c m - 1) * goodV c < m := by
  obtain ⟨r1, r2, _⟩ := goodV_range h
  unfold typV
  generalize goodV c = g at *
  rw [Int.tdiv_eq_ediv_of_nonneg (by omega)]
  have h1 := Int.mul_ediv_add_emod (m + g - 1) g
  have h2 := Int.emod_lt_of_pos (m + g - 1) (show 0 < g by omega)
  have h3 := Int.emod_nonneg (m + g - 1) (show g ≠ 0 by omega)
  rw [Int.mul_comm] at h1
  rw [Int.sub_mul]
  generalize (m + g - 1) / g * g = P at *
  omega
theorem cell_else13d {w : World} {R Q i o : Nat} {v u : Value} (h : w.cell? ⟨Q, o, none⟩ = some u) (hne : R ≠ Q) : (w.setCell ⟨R, i, none⟩ v).cell? ⟨Q, o, none⟩ = some u := by
  rw [World.cell?_setCell_other _ _ _ _ (fun e => hne (by cases e; rfl))]
  exact h
theorem good_wf {z : Int} (h0 : -1000000 ≤ z) (h1 : z ≤ 1000000) : (Lit.int .i64 z).wf = true := by 
  have h : (Lit.int .i64 z).wf = (decide (-9223372036854775808 ≤ z) && decide (z ≤ 9223372036854775807)) := rfl
  rw [h, decide_eq_true (by omega), decide_eq_true (by omega)]; rfl
set_option maxRecDepth 100000 in
set_option maxHeartbeats 4000000 in
theorem fnCopies_any (A0 : Option Addr) (n0 c0 : Nat) (xs0 : List Int) (A1 : Option Addr) (n1 c1 : Nat) (xs1 : List Int) (w : World) (h0 : n0 ≤ maxLen ∧ Bytes w A0 n0 xs0 ∧ ∀ x ∈ xs0, byteGood x) (h1 : n1 ≤ maxLen ∧ Bytes w A1 n1 xs1 ∧ ∀ x ∈ xs1, byteGood x) :
    Calls Try.prog 3 #[.slice A0 n0 c0, .slice A1 n1 c1] w fun e w' => e = .returned (.bool true) ∧ Below w.heap.size w w' := by
  obtain ⟨hm0, P0, hg0⟩ := h0
  obtain ⟨hm1, P1, hg1⟩ := h1
  have hlong := Lib.hid (fun W => a2long_any A0 n0 c0 A1 n1 c1 W hm0 hm1)
  have hca := Lib.hid (a2carb_any A0 n0 c0 xs0 w hm0 P0 hg0)
  have hat := Lib.hid (fun (i m : Nat) (hi : i ≤ 100) (hx : 1 ≤ m) (hy : m ≤ 1000) (W : World) (hb : Below w.heap.size w W) => a2atN A1 n1 c1 i m hi hx hy xs1 W hm1 (P1.below hb) hg1)
  clear P0 hg0 P1 hg1 hm0 hm1
  generalize hlv : (decide (3000 < n0) || decide (3000 < n1)) = lv at *
  clear hlv
  cases lv with
  | true =>
    go_enter Try.func3, Try.ntmps3
    go_wp2_with fail
    refine (hlong.out _).mono ?_
    rintro e w1 ⟨rfl, rfl⟩
    go_wp2
    go_ret
    exact ⟨rfl, Below.refl _ _⟩
  | false =>
    go_enter Try.func3, Try.ntmps3
    go_wp2_with fail
    refine (hlong.out _).mono ?_
    rintro e w1 ⟨rfl, rfl⟩
    go_wp2_with fail
    refine hca.out.mono ?_
    rintro e w1 ⟨⟨F, L, E⟩, hok, hF, hL, rfl, hb⟩
    simp only at hF hL
    have htop := good_top hok
    have hnext := good_next hok
    obtain ⟨r1, r2, _, _⟩ := goodV_range hok
    obtain ⟨⟨v0, v1⟩, ⟨v2, v3⟩, v4, v5⟩ := caB_iff.1 hok
    simp only at htop hnext v0 v1 v2 v3 v4 v5
    have hgood := Lib.hid (fun (f : Int) (hf : caB ⟨f, L, E⟩ = true) W => gc13_impl ⟨f, L, E⟩ W (by have := caB_iff.1 hf; simp only at this; exact ⟨good_wf (by simp only; omega) (by simp only; omega), good_wf (by simp only; omega) (by simp only; omega), good_wf (by simp only; omega) (by simp only; omega)⟩))
    have hcg : (⟨F, L, E⟩ : CarbonD).good := ⟨good_wf (by simp only; omega) (by simp only; omega), good_wf (by simp only; omega) (by simp only; omega), good_wf (by simp only; omega) (by simp only; omega)⟩
    have hstr := Lib.hid (fun (k : Int) (hk : 0 ≤ k ∧ k ≤ 11) W => sa13_impl ⟨F, L, E⟩ k W hcg (good_wf (by omega) (by omega)))
    have hforce := Lib.hid (fun (k : Int) (hk : 1 ≤ k ∧ k ≤ 12) W => ff13_impl ⟨F, L, E⟩ k W hcg (good_wf (by omega) (by omega)))
    have htyp := Lib.hid (fun (m : Int) (hm : 0 ≤ m ∧ m ≤ 199) W => tf13_impl ⟨F, L, E⟩ m W hcg (good_wf (by omega) (by omega)))
    have hgr : ∀ f, caB ⟨f, L, E⟩ = true → gcR ⟨f, L, E⟩ = (goodV ⟨f, L, E⟩, 0) := fun f hf => by rw [gcR, if_pos hf]
    have hsr : ∀ k, 0 ≤ k → k ≤ 11 → saR ⟨F, L, E⟩ k = (max 0 (F - k * L), 0) := fun k h0 h1 => by rw [saR, if_pos hok, if_pos (inR_iff.2 ⟨h0, h1⟩)]
    have hfr : ∀ k, 1 ≤ k → k ≤ 12 → ffR ⟨F, L, E⟩ k = if 1000 < E + (k - 1) * L then (0, 5) else (E + (k - 1) * L, 0) := fun k h0 h1 => by rw [ffR, if_pos hok, if_pos (inR_iff.2 ⟨h0, h1⟩)]
    have htr : ∀ m, 0 ≤ m → m ≤ 199 → tfR ⟨F, L, E⟩ m = (typV ⟨F, L, E⟩ m, 0) := fun m h0 h1 => by rw [tfR, if_pos hok, if_pos (inR_iff.2 ⟨h0, by omega⟩)]
    have hjust := Lib.hid (fun (m : Int) (hm : 0 ≤ m) => typ_just hok hm)
    have htrg := Lib.hid (fun (m : Int) (h0 : 0 ≤ m) (h1 : m ≤ 500) => typV_range hok h0 h1)
    have hfin := Lib.hid (fun (k : Int) (h1 : 1 ≤ k) (h2 : k ≤ 12) hf => force_in hok h1 h2 hf)
    have hfgd := Lib.hid (fun (k : Int) (h1 : 1 ≤ k) (h2 : k ≤ 12) => force_good hok h1 h2)
    have hfls := Lib.hid (fun (k : Int) (h1 : 2 ≤ k) (h2 : k ≤ 12) hf => force_less hok h1 h2 hf)
    simp only at hfin hfgd hfls
    have hcn := Lib.hid (hgood.out F hok)
    rw [hgr F hok] at hcn
    obtain ⟨n, hn⟩ : ∃ n, goodV ⟨F, L, E⟩ = n := ⟨_, rfl⟩
    rw [hn] at hcn htop hnext r1 r2 hjust
    simp only at hcn hstr hforce htyp
    have hs1 := Lib.hid (hstr.out (n - 1) (by omega))
    rw [hsr (n - 1) (by omega) (by omega)] at hs1
    obtain ⟨S1, hS1⟩ : ∃ S1, max 0 (F - (n - 1) * L) = S1 := ⟨_, rfl⟩
    rw [hS1] at hs1 htop
    have hwn : IntKind.i64.wrap (n - 1) = n - 1 := IntWalk.i64_in _ (by omega)
    have ga : decide (n < 1) = false := decide_eq_false (by omega)
    have gb : decide ((12 : Int) < n) = false := decide_eq_false (by omega)
    have gc : decide (S1 < E) = false := decide_eq_false (by omega)
    have q0 : (w1.alloc (.cells #[.int .i64 F, .int .i64 L, .int .i64 E] 25)).cell? ⟨w1.heap.size, 0, none⟩ = some (.int .i64 F) := cell_new rfl rfl
    have q1 : (w1.alloc (.cells #[.int .i64 F, .int .i64 L, .int .i64 E] 25)).cell? ⟨w1.heap.size, 1, none⟩ = some (.int .i64 L) := cell_new rfl rfl
    have q2 : (w1.alloc (.cells #[.int .i64 F, .int .i64 L, .int .i64 E] 25)).cell? ⟨w1.heap.size, 2, none⟩ = some (.int .i64 E) := cell_new rfl rfl
    have hbw := hb.alloc hb.size (.cells #[.int .i64 F, .int .i64 L, .int .i64 E] 25)
    have hzw := hb.size
    clear hb hca hlong
    replace hn := Lib.hid hn
    replace hS1 := Lib.hid hS1
    go_wp2_with fail
    refine (hcn.out _).mono ?_
    rintro e w2 ⟨rfl, hb⟩
    replace q0 := cell_step q0 hb
    replace q1 := cell_step q1 hb
    replace q2 := cell_step q2 hb
    replace hbw := hbw.step hb
    clear hb
    have hlt2 := World.block_lt_of_cell? _ _ q0
    simp only at hlt2
    go_wp2_with fail
    refine (hs1.out _).mono ?_
    rintro e w3 ⟨rfl, hb⟩
    replace q0 := cell_step q0 hb
    replace q1 := cell_step q1 hb
    replace q2 := cell_step q2 hb
    replace hbw := hbw.step hb
    clear hb
    have hlt3 := World.block_lt_of_cell? _ _ q0
    simp only at hlt3
    by_cases h12 : n < 12
    · have gg : decide (n < 12) = true := decide_eq_true h12
      have hs2 := Lib.hid (hstr.out n (by omega))
      rw [hsr n (by omega) (by omega)] at hs2
      have hnx := hnext h12
      generalize max 0 (F - n * L) = S2 at *
      have gh : decide (E ≤ S2) = false := decide_eq_false (by omega)
      simp only at hs2
      go_wp2_with fail
      refine (hs2.out _).mono ?_
      rintro e w4 ⟨rfl, hb⟩
      replace q0 := cell_step q0 hb
      replace q1 := cell_step q1 hb
      replace q2 := cell_step q2 hb
      replace hbw := hbw.step hb
      clear hb
      have hlt4 := World.block_lt_of_cell? _ _ q0
      simp only at hlt4
      have ha1 := Lib.hid (hat.out 0 12 (by omega) (by omega) (by omega) _ hbw)
      go_wp2_with fail
      refine ha1.out.mono ?_
      rintro e w5 ⟨⟨a, ha, rfl⟩, rfl⟩
      have hwa : IntKind.i64.wrap (1 + (a : Int)) = 1 + (a : Int) := IntWalk.i64_in _ (by omega)
      obtain ⟨k, hk⟩ : ∃ k, 1 + (a : Int) = k := ⟨_, rfl⟩
      rw [hk] at hwa
      have hk1 : 1 ≤ k := by omega
      have hk2 : k ≤ 12 := by omega
      have hwk : IntKind.i64.wrap (k - 1) = k - 1 := IntWalk.i64_in _ (by omega)
      have hm := mul_in (a := k - 1) (b := L) (A := 11) (B := 1000) (by omega) (by omega) (by omega) (by omega)
      have hc3 := Lib.hid (hforce.out k ⟨hk1, hk2⟩)
      rw [hfr k hk1 hk2] at hc3
      have hfin1 := hfin.out k hk1 hk2
      have hfgd1 := hfgd.out k hk1 hk2
      have hfls1 := hfls.out k
      obtain ⟨M, hM⟩ : ∃ M, (k - 1) * L = M := ⟨_, rfl⟩
      rw [hM] at hc3 hfin1 hfgd1 hfls1 hm
      have hwm : IntKind.i64.wrap ((k - 1) * L) = M := by rw [hM]; exact IntWalk.i64_in _ (by omega)
      have hwf : IntKind.i64.wrap (E + M) = E + M := IntWalk.i64_in _ (by omega)
      have hM0 : M = 0 → k = 1 := fun h => by rcases Int.mul_eq_zero.1 (hM.trans h) with h | h <;> omega
      replace hM := Lib.hid hM
      obtain ⟨f, hf⟩ : ∃ f, E + M = f := ⟨_, rfl⟩
      rw [hf] at hc3 hfin1 hfgd1 hfls1 hwf
      by_cases h1000 : 1000 < f
      · rw [if_pos h1000] at hc3
        have gd : decide ((1000 : Int) < f) = true := decide_eq_true h1000
        simp only at hc3
        go_wp2_with fail
        refine (hc3.out _).mono ?_
        rintro e w6 ⟨rfl, hb⟩
        replace q0 := cell_step q0 hb
        replace q1 := cell_step q1 hb
        replace q2 := cell_step q2 hb
        replace hbw := hbw.step hb
        clear hb
        have hlt6 := World.block_lt_of_cell? _ _ q0
        simp only at hlt6
        go_wp2
        go_ret
        exact ⟨rfl, hbw⟩
      · rw [if_neg h1000] at hc3
        simp only at hc3
        have hx1 := hfin1 (by omega)
        have hcx := Lib.hid (hgood.out f hx1)
        rw [hgr f hx1, hfgd1] at hcx
        simp only at hcx
        have hwfm : IntKind.i64.wrap (f - 1) = f - 1 := IntWalk.i64_in _ (by omega)
        have ge : decide (k < k) = false := decide_eq_false (by omega)
        go_wp2_with fail
        refine (hc3.out _).mono ?_
        rintro e w6 ⟨rfl, hb⟩
        replace q0 := cell_step q0 hb
        replace q1 := cell_step q1 hb
        replace q2 := cell_step q2 hb
        replace hbw := hbw.step hb
        clear hb
        have hlt6 := World.block_lt_of_cell? _ _ q0
        simp only at hlt6
        have hz6 := hbw.size
        by_cases hfe : f = E
        · have gf : (f == E) = true := beq_iff_eq.2 hfe
          have gk : (k == 1) = true := beq_iff_eq.2 (hM0 (by omega))
          replace hfe := Lib.hid hfe
          go_wp2_with fail
          refine (hcx.out _).mono ?_
          rintro e w7 ⟨rfl, hb⟩
          have hX7 := own_block hb
          have p0 := cell_step (cell_on q0 (.cells #[.int .i64 f, .int .i64 L, .int .i64 E] 25)) hb
          have p1 := cell_step (cell_on q1 (.cells #[.int .i64 f, .int .i64 L, .int .i64 E] 25)) hb
          have p2 := cell_step (cell_on q2 (.cells #[.int .i64 f, .int .i64 L, .int .i64 E] 25)) hb
          have hbw7 := (hbw.alloc hz6 (.cells #[.int .i64 f, .int .i64 L, .int .i64 E] 25)).step hb
          have hlt7 := World.block_lt_of_cell? _ _ p0
          simp only at hlt7
          have hltX := own_lt hX7
          clear hb q0 q1 q2 hbw
          clear hX7
          go_wp2
          go_ret
          exact ⟨rfl, hbw7⟩
        · have gf : (f == E) = false := beq_eq_false_iff_ne.2 hfe
          have hk22 : 2 ≤ k := by
            rcases Int.lt_or_le k 2 with h | h
            · exfalso
              have : k - 1 = 0 := by omega
              have h9 := hM.out
              rw [this, Int.zero_mul] at h9
              omega
            · exact h
          obtain ⟨hx2, hlk⟩ := hfls1 hk22 hk2 (by omega)
          have hcx2 := Lib.hid (hgood.out (f - 1) hx2)
          rw [hgr (f - 1) hx2] at hcx2
          generalize goodV ⟨f - 1, L, E⟩ = g2 at *
          simp only at hcx2
          have gl : decide (g2 < k) = true := decide_eq_true hlk
          replace hfe := Lib.hid hfe
          go_wp2_with fail
          refine (hcx.out _).mono ?_
          rintro e w7 ⟨rfl, hb⟩
          have hX7 := own_block hb
          have p0 := cell_step (cell_on q0 (.cells #[.int .i64 f, .int .i64 L, .int .i64 E] 25)) hb
          have p1 := cell_step (cell_on q1 (.cells #[.int .i64 f, .int .i64 L, .int .i64 E] 25)) hb
          have p2 := cell_step (cell_on q2 (.cells #[.int .i64 f, .int .i64 L, .int .i64 E] 25)) hb
          have hbw7 := (hbw.alloc hz6 (.cells #[.int .i64 f, .int .i64 L, .int .i64 E] 25)).step hb
          have hlt7 := World.block_lt_of_cell? _ _ p0
          simp only at hlt7
          have hltX := own_lt hX7
          clear hb q0 q1 q2 hbw
          have x0 := own_cell hX7 (o := 0) rfl
          have fx0 := own_frozen hX7 0
          have hneX : w6.heap.size ≠ w1.heap.size := by omega
          have hX8 := set_block13d (i := 0) (v := .int .i64 (f - 1)) hX7
          simp only [List.setIfInBounds_toArray, List.set_cons_zero, List.set_cons_succ] at hX8
          have e0 := own_cell hX8 (o := 0) rfl
          have e1 := own_cell hX8 (o := 1) rfl
          have e2 := own_cell hX8 (o := 2) rfl
          have hltX8 := own_lt hX8
          have r0 := cell_else13d (R := w6.heap.size) (i := 0) (v := .int .i64 (f - 1)) p0 hneX
          have r1 := cell_else13d (R := w6.heap.size) (i := 0) (v := .int .i64 (f - 1)) p1 hneX
          have r2 := cell_else13d (R := w6.heap.size) (i := 0) (v := .int .i64 (f - 1)) p2 hneX
          have hltC8 := World.block_lt_of_cell? _ _ r0
          simp only at hltC8
          have hbw8 : Below w.heap.size w (w7.setCell ⟨w6.heap.size, 0, none⟩ (.int .i64 (f - 1))) := hbw7.setCell (by show w.heap.size ≤ w6.heap.size; exact hz6) _
          clear hX7 hX8
          go_wp2_with fail
          refine (hcx2.out _).mono ?_
          rintro e w9 ⟨rfl, hb⟩
          have s0 := cell_step r0 hb
          have s1 := cell_step r1 hb
          have s2 := cell_step r2 hb
          have hbw9 := hbw8.step hb
          have hlt9 := World.block_lt_of_cell? _ _ s0
          simp only at hlt9
          clear hb r0 r1 r2 e0 e1 e2 p0 p1 p2 x0 fx0 hbw8 hbw7
          have ha2 := Lib.hid (hat.out 1 200 (by omega) (by omega) (by omega) _ hbw9)
          go_wp2_with fail
          refine ha2.out.mono ?_
          rintro e w10 ⟨⟨m, hm2, rfl⟩, rfl⟩
          have hct := Lib.hid (htyp.out (m : Int) (by omega))
          rw [htr (m : Int) (by omega) (by omega)] at hct
          obtain ⟨t0, t1⟩ := htrg.out (m : Int) (by omega) (by omega)
          obtain ⟨j0, j1⟩ := hjust.out (m : Int) (by omega)
          generalize typV ⟨F, L, E⟩ (m : Int) = t at *
          simp only at hct
          have mt := mul_in (a := t) (b := n) (A := 200) (B := 12) t0 (by omega) (by omega) (by omega)
          have hpe : (t - 1) * n = t * n - n := by rw [Int.sub_mul, Int.one_mul]
          obtain ⟨T, hT⟩ : ∃ T, t * n = T := ⟨_, rfl⟩
          rw [hT] at mt j0 hpe
          rw [hpe] at j1
          have hw5 : IntKind.i64.wrap (t * n) = T := by rw [hT]; exact IntWalk.i64_in _ (by omega)
          have hw6 : IntKind.i64.wrap (t - 1) = t - 1 := IntWalk.i64_in _ (by omega)
          have hw7 : IntKind.i64.wrap ((t - 1) * n) = T - n := by rw [hpe]; exact IntWalk.i64_in _ (by omega)
          have gm : decide ((m : Int) ≤ T) = true := decide_eq_true j0
          have gn : decide (T - n < (m : Int)) = true := decide_eq_true j1
          replace hT := Lib.hid hT
          replace hpe := Lib.hid hpe
          go_wp2_with fail
          refine (hct.out _).mono ?_
          rintro e w11 ⟨rfl, hb⟩
          have hbw11 := hbw9.step hb
          clear hb s0 s1 s2
          go_wp2
          go_ret
          exact ⟨rfl, hbw11⟩
    · have gg : decide (n < 12) = false := decide_eq_false h12
      have ha1 := Lib.hid (hat.out 0 12 (by omega) (by omega) (by omega) _ hbw)
      go_wp2_with fail
      refine ha1.out.mono ?_
      rintro e w5 ⟨⟨a, ha, rfl⟩, rfl⟩
      have hwa : IntKind.i64.wrap (1 + (a : Int)) = 1 + (a : Int) := IntWalk.i64_in _ (by omega)
      obtain ⟨k, hk⟩ : ∃ k, 1 + (a : Int) = k := ⟨_, rfl⟩
      rw [hk] at hwa
      have hk1 : 1 ≤ k := by omega
      have hk2 : k ≤ 12 := by omega
      have hwk : IntKind.i64.wrap (k - 1) = k - 1 := IntWalk.i64_in _ (by omega)
      have hm := mul_in (a := k - 1) (b := L) (A := 11) (B := 1000) (by omega) (by omega) (by omega) (by omega)
      have hc3 := Lib.hid (hforce.out k ⟨hk1, hk2⟩)
      rw [hfr k hk1 hk2] at hc3
      have hfin1 := hfin.out k hk1 hk2
      have hfgd1 := hfgd.out k hk1 hk2
      have hfls1 := hfls.out k
      obtain ⟨M, hM⟩ : ∃ M, (k - 1) * L = M := ⟨_, rfl⟩
      rw [hM] at hc3 hfin1 hfgd1 hfls1 hm
      have hwm : IntKind.i64.wrap ((k - 1) * L) = M := by rw [hM]; exact IntWalk.i64_in _ (by omega)
      have hwf : IntKind.i64.wrap (E + M) = E + M := IntWalk.i64_in _ (by omega)
      have hM0 : M = 0 → k = 1 := fun h => by rcases Int.mul_eq_zero.1 (hM.trans h) with h | h <;> omega
      replace hM := Lib.hid hM
      obtain ⟨f, hf⟩ : ∃ f, E + M = f := ⟨_, rfl⟩
      rw [hf] at hc3 hfin1 hfgd1 hfls1 hwf
      by_cases h1000 : 1000 < f
      · rw [if_pos h1000] at hc3
        have gd : decide ((1000 : Int) < f) = true := decide_eq_true h1000
        simp only at hc3
        go_wp2_with fail
        refine (hc3.out _).mono ?_
        rintro e w6 ⟨rfl, hb⟩
        replace q0 := cell_step q0 hb
        replace q1 := cell_step q1 hb
        replace q2 := cell_step q2 hb
        replace hbw := hbw.step hb
        clear hb
        have hlt6 := World.block_lt_of_cell? _ _ q0
        simp only at hlt6
        go_wp2
        go_ret
        exact ⟨rfl, hbw⟩
      · rw [if_neg h1000] at hc3
        simp only at hc3
        have hx1 := hfin1 (by omega)
        have hcx := Lib.hid (hgood.out f hx1)
        rw [hgr f hx1, hfgd1] at hcx
        simp only at hcx
        have hwfm : IntKind.i64.wrap (f - 1) = f - 1 := IntWalk.i64_in _ (by omega)
        have ge : decide (k < k) = false := decide_eq_false (by omega)
        go_wp2_with fail
        refine (hc3.out _).mono ?_
        rintro e w6 ⟨rfl, hb⟩
        replace q0 := cell_step q0 hb
        replace q1 := cell_step q1 hb
        replace q2 := cell_step q2 hb
        replace hbw := hbw.step hb
        clear hb
        have hlt6 := World.block_lt_of_cell? _ _ q0
        simp only at hlt6
        have hz6 := hbw.size
        by_cases hfe : f = E
        · have gf : (f == E) = true := beq_iff_eq.2 hfe
          have gk : (k == 1) = true := beq_iff_eq.2 (hM0 (by omega))
          replace hfe := Lib.hid hfe
          go_wp2_with fail
          refine (hcx.out _).mono ?_
          rintro e w7 ⟨rfl, hb⟩
          have hX7 := own_block hb
          have p0 := cell_step (cell_on q0 (.cells #[.int .i64 f, .int .i64 L, .int .i64 E] 25)) hb
          have p1 := cell_step (cell_on q1 (.cells #[.int .i64 f, .int .i64 L, .int .i64 E] 25)) hb
          have p2 := cell_step (cell_on q2 (.cells #[.int .i64 f, .int .i64 L, .int .i64 E] 25)) hb
          have hbw7 := (hbw.alloc hz6 (.cells #[.int .i64 f, .int .i64 L, .int .i64 E] 25)).step hb
          have hlt7 := World.block_lt_of_cell? _ _ p0
          simp only at hlt7
          have hltX := own_lt hX7
          clear hb q0 q1 q2 hbw
          clear hX7
          go_wp2
          go_ret
          exact ⟨rfl, hbw7⟩
        · have gf : (f == E) = false := beq_eq_false_iff_ne.2 hfe
          have hk22 : 2 ≤ k := by
            rcases Int.lt_or_le k 2 with h | h
            · exfalso
              have : k - 1 = 0 := by omega
              have h9 := hM.out
              rw [this, Int.zero_mul] at h9
              omega
            · exact h
          obtain ⟨hx2, hlk⟩ := hfls1 hk22 hk2 (by omega)
          have hcx2 := Lib.hid (hgood.out (f - 1) hx2)
          rw [hgr (f - 1) hx2] at hcx2
          generalize goodV ⟨f - 1, L, E⟩ = g2 at *
          simp only at hcx2
          have gl : decide (g2 < k) = true := decide_eq_true hlk
          replace hfe := Lib.hid hfe
          go_wp2_with fail
          refine (hcx.out _).mono ?_
          rintro e w7 ⟨rfl, hb⟩
          have hX7 := own_block hb
          have p0 := cell_step (cell_on q0 (.cells #[.int .i64 f, .int .i64 L, .int .i64 E] 25)) hb
          have p1 := cell_step (cell_on q1 (.cells #[.int .i64 f, .int .i64 L, .int .i64 E] 25)) hb
          have p2 := cell_step (cell_on q2 (.cells #[.int .i64 f, .int .i64 L, .int .i64 E] 25)) hb
          have hbw7 := (hbw.alloc hz6 (.cells #[.int .i64 f, .int .i64 L, .int .i64 E] 25)).step hb
          have hlt7 := World.block_lt_of_cell? _ _ p0
          simp only at hlt7
          have hltX := own_lt hX7
          clear hb q0 q1 q2 hbw
          have x0 := own_cell hX7 (o := 0) rfl
          have fx0 := own_frozen hX7 0
          have hneX : w6.heap.size ≠ w1.heap.size := by omega
          have hX8 := set_block13d (i := 0) (v := .int .i64 (f - 1)) hX7
          simp only [List.setIfInBounds_toArray, List.set_cons_zero, List.set_cons_succ] at hX8
          have e0 := own_cell hX8 (o := 0) rfl
          have e1 := own_cell hX8 (o := 1) rfl
          have e2 := own_cell hX8 (o := 2) rfl
          have hltX8 := own_lt hX8
          have r0 := cell_else13d (R := w6.heap.size) (i := 0) (v := .int .i64 (f - 1)) p0 hneX
          have r1 := cell_else13d (R := w6.heap.size) (i := 0) (v := .int .i64 (f - 1)) p1 hneX
          have r2 := cell_else13d (R := w6.heap.size) (i := 0) (v := .int .i64 (f - 1)) p2 hneX
          have hltC8 := World.block_lt_of_cell? _ _ r0
          simp only at hltC8
          have hbw8 : Below w.heap.size w (w7.setCell ⟨w6.heap.size, 0, none⟩ (.int .i64 (f - 1))) := hbw7.setCell (by show w.heap.size ≤ w6.heap.size; exact hz6) _
          clear hX7 hX8
          go_wp2_with fail
          refine (hcx2.out _).mono ?_
          rintro e w9 ⟨rfl, hb⟩
          have s0 := cell_step r0 hb
          have s1 := cell_step r1 hb
          have s2 := cell_step r2 hb
          have hbw9 := hbw8.step hb
          have hlt9 := World.block_lt_of_cell? _ _ s0
          simp only at hlt9
          clear hb r0 r1 r2 e0 e1 e2 p0 p1 p2 x0 fx0 hbw8 hbw7
          have ha2 := Lib.hid (hat.out 1 200 (by omega) (by omega) (by omega) _ hbw9)
          go_wp2_with fail
          refine ha2.out.mono ?_
          rintro e w10 ⟨⟨m, hm2, rfl⟩, rfl⟩
          have hct := Lib.hid (htyp.out (m : Int) (by omega))
          rw [htr (m : Int) (by omega) (by omega)] at hct
          obtain ⟨t0, t1⟩ := htrg.out (m : Int) (by omega) (by omega)
          obtain ⟨j0, j1⟩ := hjust.out (m : Int) (by omega)
          generalize typV ⟨F, L, E⟩ (m : Int) = t at *
          simp only at hct
          have mt := mul_in (a := t) (b := n) (A := 200) (B := 12) t0 (by omega) (by omega) (by omega)
          have hpe : (t - 1) * n = t * n - n := by rw [Int.sub_mul, Int.one_mul]
          obtain ⟨T, hT⟩ : ∃ T, t * n = T := ⟨_, rfl⟩
          rw [hT] at mt j0 hpe
          rw [hpe] at j1
          have hw5 : IntKind.i64.wrap (t * n) = T := by rw [hT]; exact IntWalk.i64_in _ (by omega)
          have hw6 : IntKind.i64.wrap (t - 1) = t - 1 := IntWalk.i64_in _ (by omega)
          have hw7 : IntKind.i64.wrap ((t - 1) * n) = T - n := by rw [hpe]; exact IntWalk.i64_in _ (by omega)
          have gm : decide ((m : Int) ≤ T) = true := decide_eq_true j0
          have gn : decide (T - n < (m : Int)) = true := decide_eq_true j1
          replace hT := Lib.hid hT
          replace hpe := Lib.hid hpe
          go_wp2_with fail
          refine (hct.out _).mono ?_
          rintro e w11 ⟨rfl, hb⟩
          have hbw11 := hbw9.step hb
          clear hb s0 s1 s2
          go_wp2
          go_ret
          exact ⟨rfl, hbw11⟩
end Go.Proofs.Ytlnhjknpeafgoaa
