/- Justified lines and texts: both sides. -/
import Derived.Test.YtcaojaaooadeaaaLn10
import Derived.Test.YtcaojaaooadeaaaLn11
namespace Go.Proofs.Ytcaojaaooadeaaa
open Go.RowKit Go.ChangeShapes Go.WideShapes Go.Deep
set_option linter.unusedVariables false
set_option linter.unusedSimpArgs false

theorem slR_1 {ws : List ByteArray} {wd : Int} (h : okW ws wd = false) : slR ws wd = (ByteArray.empty, 1) := by simp [slR, h]
theorem slR_5 {ws : List ByteArray} {wd : Int} (h : okW ws wd = true) (h2 : wd < (longN ws : Int)) : slR ws wd = (ByteArray.empty, 5) := by simp [slR, h, h2]
theorem slR_3 {ws : List ByteArray} {wd : Int} (h : okW ws wd = true) (h2 : ¬ wd < (longN ws : Int)) (h3 : ws.length = 0) : slR ws wd = (ByteArray.empty, 3) := by simp [slR, h, h2, h3]
theorem slR_0 {ws : List ByteArray} {wd : Int} (h : okW ws wd = true) (h2 : ¬ wd < (longN ws : Int)) (h3 : ¬ ws.length = 0) : slR ws wd = (setB wd.toNat ws, 0) := by rw [slR, if_pos h, if_neg h2, if_neg h3]
theorem ret_s2 {p : ByteArray × Int} {a : ByteArray} {b : Int} (h : p = (a, b)) : Ending.returned (.tuple #[.string a, .int .i64 b]) = .returned (.tuple #[.string p.1, .int .i64 p.2]) := by rw [h]
set_option maxRecDepth 100000 in
set_option maxHeartbeats 3200000 in
theorem sl9_specC (A : Option Addr) (n c : Nat) (ws : List ByteArray) (wd : Int) (w : World) (h : Strs w A n ws) (hn : n ≤ 1048576) (hc : n ≤ c) (hg : ∀ x ∈ ws, x.size ≤ maxLen) {p : ByteArray × Int} (hv : slR ws wd = p) :
    Calls Try.prog 29 #[.slice A n c, .int .i64 wd] w fun e w' => e = .returned (.tuple #[.string p.1, .int .i64 p.2]) ∧ Below w.heap.size w w' := by
  have hl := Lib.hid h.1
  replace hv := Lib.hid hv
  cases h1 : okW ws wd with
  | false =>
    have hp : Hid (p = (ByteArray.empty, 1)) := Lib.hid (by rw [← hv.out, slR_1 h1])
    have hc1 := Lib.hid (ok9_spec A n c ws wd h1 w h hn hg)
    clear h1 hv h hg
    go_enter Try.func29, Try.ntmps29
    go_wp2_with fail
    refine hc1.out.mono ?_
    rintro e w1 ⟨rfl, rfl⟩
    go_wp2
    go_ret2
    exact ⟨ret_s2 hp.out, Below.refl _ _⟩
  | true =>
    have hc1 := Lib.hid (ok9_spec A n c ws wd h1 w h hn hg)
    obtain ⟨n40, w1, w80, hws⟩ := okW_ok h1
    rw [hl.out] at n40
    have hlo := Lib.hid (long9_spec A n c ws (by omega) (fun x hx => by have := (hws x hx).2.1; omega) rfl w h)
    obtain ⟨LN, hLN⟩ : ∃ LN, longN ws = LN := ⟨_, rfl⟩
    rw [hLN] at hlo
    by_cases h2 : wd < (LN : Int)
    · have hp : Hid (p = (ByteArray.empty, 5)) := Lib.hid (by rw [← hv.out, slR_5 h1 (by rw [hLN]; exact h2)])
      have g1 : decide (wd < (LN : Int)) = true := decide_eq_true h2
      clear h1 hv h hg hws hLN
      go_enter Try.func29, Try.ntmps29
      go_wp2_with fail
      refine hc1.out.mono ?_
      rintro e w1 ⟨rfl, rfl⟩
      go_wp2_with fail
      refine hlo.out.mono ?_
      rintro e w1 ⟨rfl, rfl⟩
      go_wp2
      go_ret2
      exact ⟨ret_s2 hp.out, Below.refl _ _⟩
    · have g1 : decide (wd < (LN : Int)) = false := decide_eq_false h2
      by_cases h0 : n = 0
      · have hp : Hid (p = (ByteArray.empty, 3)) := Lib.hid (by rw [← hv.out, slR_3 h1 (by rw [hLN]; exact h2) (by rw [hl.out]; exact h0)])
        subst h0
        clear h1 hv h hg hws hLN
        go_enter Try.func29, Try.ntmps29
        go_wp2_with fail
        refine hc1.out.mono ?_
        rintro e w1 ⟨rfl, rfl⟩
        go_wp2_with fail
        refine hlo.out.mono ?_
        rintro e w1 ⟨rfl, rfl⟩
        go_wp2
        go_ret2
        exact ⟨ret_s2 hp.out, Below.refl _ _⟩
      · obtain ⟨W, rfl⟩ : ∃ W : Nat, wd = (W : Int) := ⟨wd.toNat, by omega⟩
        have hp : Hid (p = (setB W ws, 0)) := Lib.hid (by rw [← hv.out, slR_0 h1 (by rw [hLN]; exact h2) (by rw [hl.out]; exact h0), Int.toNat_natCast])
        obtain ⟨b, off, rfl, _⟩ := h.2 (by omega)
        have hset := Lib.hid (set9_spec b off n c ws W (by omega) (by omega) (by omega) (fun x hx => by have := (hws x hx).2.1; omega) (by omega) w h)
        have g2 : ((n : Int) == 0) = false := beq_eq_false_iff_ne.2 (by omega)
        have g3 : (n == 0) = false := beq_eq_false_iff_ne.2 h0
        replace h0 := Lib.hid h0
        clear h1 hv h hg hws hLN
        go_enter Try.func29, Try.ntmps29
        go_wp2_with fail
        refine hc1.out.mono ?_
        rintro e w1 ⟨rfl, rfl⟩
        go_wp2_with fail
        refine hlo.out.mono ?_
        rintro e w1 ⟨rfl, rfl⟩
        go_wp2_with fail
        refine hset.out.mono ?_
        rintro e w1 ⟨rfl, hb1⟩
        go_wp2
        go_ret2
        exact ⟨ret_s2 hp.out, hb1⟩
theorem sl9_spec (A : Option Addr) (n m : Nat) (ws : List ByteArray) (wd : Int) (w : World) (h : Strs w A n ws) (hn : n ≤ 1048576) (hg : ∀ x ∈ ws, strGood x) (hw : (Lit.int .i64 wd).wf = true) :
    Calls Try.prog 29 #[.slice A n n, .int .i64 wd] w fun e w' => e = .returned (.tuple #[.string (slR ws wd).1, .int .i64 (slR ws wd).2]) ∧ Below w.heap.size w w' := sl9_specC A n n ws wd w h hn (Nat.le_refl _) hg rfl
theorem line_all {ws : List ByteArray} {n : Nat} (h : ws.length = n) : lineW ws (0, n) = ws := by rw [lineW, List.drop_zero, List.take_of_length_le (by simp only; omega)]
theorem code_nil {ws : List ByteArray} {wd : Int} (h : okW ws wd = true) : codeL ws wd [] = if ws.length = 0 then 0 else if wd < (longN ws : Int) then 5 else 0 := by
  rw [codeL_3 h rfl]
  by_cases h0 : ws.length = 0
  · rw [if_pos h0, pairsW, if_pos h0]; rfl
  · rw [if_neg h0, pairsW, if_neg h0]
    simp only [List.nil_append, prsL, List.all_cons, List.all_nil, Bool.and_true, Int.toNat_natCast, fitB, line_all rfl, decide_eq_true_eq]
    by_cases h2 : wd < (longN ws : Int)
    · rw [if_pos h2, if_neg (by omega)]
    · rw [if_neg h2, if_pos (by omega)]
set_option maxRecDepth 100000 in
set_option maxHeartbeats 3200000 in
theorem sl9_implC (A : Option Addr) (n c : Nat) (ws : List ByteArray) (wd : Int) (w : World) (h : Strs w A n ws) (hn : n ≤ 1048576) (hc : n ≤ c) (hg : ∀ x ∈ ws, x.size ≤ maxLen) {p : ByteArray × Int} (hv : slR ws wd = p) :
    Calls Try.prog 30 #[.slice A n c, .int .i64 wd] w fun e w' => e = .returned (.tuple #[.string p.1, .int .i64 p.2]) ∧ Below w.heap.size w w' := by
  have hl := Lib.hid h.1
  replace hv := Lib.hid hv
  obtain ⟨b, off, hA⟩ : ∃ b off, 0 < n → A = some ⟨b, off, none⟩ := by
    by_cases h0 : 0 < n
    · obtain ⟨b, off, e, _⟩ := h.2 h0; exact ⟨b, off, fun _ => e⟩
    · exact ⟨0, 0, fun h => absurd h h0⟩
  obtain ⟨q, hq⟩ : ∃ q, codeL ws wd [] = q := ⟨_, rfl⟩
  have hc1 := Lib.hid (lb9_impl A n c ws wd none 0 0 [] b off hA w h SRow.nil_ hn hc (by omega) hg hq)
  have hcases : (q = 0 ∧ okW ws wd = true ∧ (n = 0 ∧ p = (ByteArray.empty, 3) ∨ ¬ n = 0 ∧ ¬ wd < (longN ws : Int) ∧ p = (setB wd.toNat ws, 0))) ∨ (q ≠ 0 ∧ p = (ByteArray.empty, q)) := by
    cases h1 : okW ws wd with
    | false => right; rw [codeL_1 h1] at hq; subst hq; exact ⟨by decide, by rw [← hv.out, slR_1 h1]⟩
    | true =>
      rw [code_nil h1, hl.out] at hq
      by_cases h0 : n = 0
      · left
        rw [if_pos h0] at hq
        refine ⟨hq.symm, rfl, .inl ⟨h0, ?_⟩⟩
        have hz : ws = [] := List.length_eq_zero_iff.1 (by rw [hl.out]; exact h0)
        have : ¬ wd < (longN ws : Int) := by rw [hz]; have := (okW_ok h1).2.1; simp [longN, sizN]; omega
        rw [← hv.out, slR_3 h1 this (by rw [hl.out]; exact h0)]
      · rw [if_neg h0] at hq
        by_cases h2 : wd < (longN ws : Int)
        · right; rw [if_pos h2] at hq; subst hq; exact ⟨by decide, by rw [← hv.out, slR_5 h1 h2]⟩
        · left; rw [if_neg h2] at hq; exact ⟨hq.symm, rfl, .inr ⟨h0, h2, by rw [← hv.out, slR_0 h1 h2 (by rw [hl.out]; exact h0)]⟩⟩
  rcases hcases with ⟨rfl, h1, hz⟩ | ⟨h0, hp⟩
  · obtain ⟨n40, w1, w80, hws⟩ := okW_ok h1
    rw [hl.out] at n40
    rcases hz with ⟨h0, hp⟩ | ⟨h0, h2, hp⟩
    · subst h0
      replace hp := Lib.hid hp
      rw [show pairsW 0 [] = [] from rfl] at hc1
      clear h1 hv hg hws hq h hA
      go_enter Try.func30, Try.ntmps30
      go_wp2_with fail
      refine hc1.out.mono ?_
      rintro e w3 ⟨hb3, ⟨_, v, rfl, hrow⟩ | ⟨h9, _⟩⟩
      · obtain ⟨A', c', rfl⟩ := owns_form8 (n := 0) hrow
        clear hrow
        go_wp2
        go_ret2
        exact ⟨ret_s2 hp.out, hb3⟩
      · exact absurd rfl h9
    · obtain ⟨W, rfl⟩ : ∃ W : Nat, wd = (W : Int) := ⟨wd.toNat, by omega⟩
      have hA := hA (by omega)
      subst hA
      replace hp := Lib.hid hp
      have hju := Lib.hid (fun W' hW' => just9_impl b (off + 0) (n - 0) (c - 0) ws W (by omega) (by omega) (by omega) (by omega) (fun x hx => by have := (hws x hx).2.1; omega) (by omega) W' hW')
      rw [Nat.add_zero, Nat.sub_zero, Nat.sub_zero] at hju
      have hpn : pairsW n [] = [(0, n)] := by rw [pairsW, if_neg h0]; simp [prsL]
      rw [hpn] at hc1
      clear h1 hv hg hws hq h2 hpn h0
      go_enter Try.func30, Try.ntmps30
      go_wp2_with fail
      refine hc1.out.mono ?_
      rintro e w3 ⟨hb3, ⟨_, v, rfl, hrow⟩ | ⟨h9, _⟩⟩
      · obtain ⟨A', c', rfl, hO⟩ := owns_v9 (l := [(0, n)]) rfl hrow
        obtain ⟨g, o, p', rfl, hgl, hx, c1⟩ := view_at hO.srow (k := 0) (by simp)
        obtain rfl : p' = (0, n) := by have := hx.out; simpa using this.symm
        have hS := h.below hb3
        replace hx := Lib.hid hx
        simp only [Nat.add_zero, Nat.sub_zero] at c1
        clear hrow hO h
        go_wp2_with fail
        refine (hju.out _ hS).mono ?_
        rintro e w4 ⟨rfl, hb4⟩
        have hb34 := hb3.step hb4
        go_wp2
        go_ret2
        refine ⟨ret_s2 (by rw [hp.out, Int.toNat_natCast]), hb34⟩
      · exact absurd rfl h9
  · replace hp := Lib.hid hp
    have g0 : (q == 0) = false := beq_eq_false_iff_ne.2 h0
    replace h0 := Lib.hid h0
    clear hq hv h hg
    go_enter Try.func30, Try.ntmps30
    go_wp2_with fail
    refine hc1.out.mono ?_
    rintro e w3 ⟨hb1, ⟨h9, _⟩ | ⟨_, rfl⟩⟩
    · exact absurd h9 h0.out
    · go_wp2
      go_ret2
      exact ⟨ret_s2 hp.out, hb1⟩
theorem sl9_impl (A : Option Addr) (n m : Nat) (ws : List ByteArray) (wd : Int) (w : World) (h : Strs w A n ws) (hn : n ≤ 1048576) (hg : ∀ x ∈ ws, strGood x) (hw : (Lit.int .i64 wd).wf = true) :
    Calls Try.prog 30 #[.slice A n n, .int .i64 wd] w fun e w' => e = .returned (.tuple #[.string (slR ws wd).1, .int .i64 (slR ws wd).2]) ∧ Below w.heap.size w w' := sl9_implC A n n ws wd w h hn (Nat.le_refl _) hg rfl
end Go.Proofs.Ytcaojaaooadeaaa
