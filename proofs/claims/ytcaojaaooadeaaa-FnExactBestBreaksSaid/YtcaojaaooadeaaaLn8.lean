/- Lines of words: the program's badness. -/
import Derived.Test.YtcaojaaooadeaaaLn7
namespace Go.Proofs.Ytcaojaaooadeaaa
open Go.RowKit Go.ChangeShapes Go.WideShapes Go.Deep
set_option linter.unusedVariables false
set_option linter.unusedSimpArgs false

theorem square9 (x y : Int) (h : x * x = y) (h0 : 0 ≤ y) (h1 : y ≤ 6400) (w : World) : Calls Try.prog 48 #[.int .i64 x] w fun e w' => e = .returned (.int .i64 y) ∧ w = w' := by
  subst h
  have hw2 : IntKind.i64.wrap (x * x) = x * x := IntWalk.i64_in _ (by omega)
  go_enter Try.func48, Try.ntmps48
  go_wp2
  go_ret
  exact ⟨rfl, rfl⟩
set_option maxRecDepth 100000 in
set_option maxHeartbeats 3200000 in
theorem bd9_implC (A : Option Addr) (n c : Nat) (ws : List ByteArray) (wd : Int) (B : Option Addr) (k0 c0 : Nat) (bs : List Int) (w : World) (h : Strs w A n ws) (hB : Ints w B k0 bs) (hn : n ≤ 1048576) (hc : n ≤ c) (hk0 : k0 ≤ 1048576) (hg : ∀ x ∈ ws, x.size ≤ maxLen) {ra rb : Int} (hv : bdR ws wd bs = (ra, rb)) :
    Calls Try.prog 24 #[.slice A n c, .int .i64 wd, .slice B k0 c0] w fun e w' => e = .returned (.tuple #[.int .i64 ra, .int .i64 rb]) ∧ Below w.heap.size w w' := by
  have hl := Lib.hid h.1
  replace hv := Lib.hid hv
  obtain ⟨q, hq⟩ : ∃ q, codeL ws wd bs = q := ⟨_, rfl⟩
  obtain ⟨b, off, hA⟩ : ∃ b off, 0 < n → A = some ⟨b, off, none⟩ := by
    by_cases h0 : 0 < n
    · obtain ⟨b, off, e, _⟩ := h.2 h0; exact ⟨b, off, fun _ => e⟩
    · exact ⟨0, 0, fun h => absurd h h0⟩
  have hc1 := Lib.hid (lb9_impl A n c ws wd B k0 c0 bs b off hA w h hB hn hc hk0 hg hq)
  by_cases h0 : q = 0
  · subst h0
    obtain ⟨hok, hri, hfi⟩ := codeL_ok hq
    obtain ⟨n40, w1, w80, hws⟩ := okW_ok hok
    have hgood := bdR_good hq
    rw [hl.out] at n40 hri hfi hgood
    obtain ⟨hpl, hpo, hp0, hbl, hpl1⟩ := pairs_ok hri
    obtain ⟨ps, hps⟩ : ∃ ps, pairsW n bs = ps := ⟨_, rfl⟩
    obtain ⟨m, hm⟩ : ∃ m, ps.length = m := ⟨_, rfl⟩
    rw [hps] at hc1 hpl hpo hfi hgood
    rw [hm] at hgood hpl
    obtain ⟨rfl, rfl⟩ : ra = badN ws wd ps (m - 1) ∧ rb = 0 := by have := hv.out; rw [hgood] at this; simpa [eq_comm] using this
    have hpo0 := Lib.hid hpo
    have hws0 := Lib.hid hws
    have hrg := Lib.hid (badN_range w80 hfi (by rw [hm]; omega))
    have hnx0 := Lib.hid (fun k p hp => badN_next (ws := ws) (wd := wd) (ps := ps) (k := k) (p := p) hp)
    have hfi0 := Lib.hid hfi
    clear hq hok hri hfi hg hws hpo hp0 hpl1 hv hgood hps
    go_enter Try.func24, Try.ntmps24
    go_wp2_with fail
    refine hc1.out.mono ?_
    rintro e w3 ⟨hb13, ⟨_, v, rfl, hrow⟩ | ⟨h9, _⟩⟩
    · rw [hm] at hrow
      obtain ⟨A', c', rfl, hO⟩ := owns_v9 hm hrow
      have hV := Lib.hid hO.srow
      have hS := h.below hb13
      replace hm := Lib.hid hm
      have hwm : IntKind.i64.wrap ((m : Int) - 1) = (m : Int) - 1 := IntWalk.i64_in _ (by omega)
      clear hrow hO hc1 h hB
      go_wp2
      go_loopw [10, 11, 12, 25] (fun s _ _ i wr => ∃ k : Nat, k ≤ m ∧ i = .int .i64 (k : Int) ∧ s = .int .i64 (badN ws wd ps (min k (m - 1))) ∧ Below w3.heap.size w3 wr) (fun _ _ _ i _ => m - (intOf i).toNat)
      case atStart => exact ⟨0, by omega, rfl, by simp [badN, sum9], Below.refl _ _⟩
      case round =>
        rename World => wr
        obtain ⟨k, hk, rfl, rfl, hbw⟩ := hrel
        have hwz := hbw.size
        by_cases hlt : k < m
        · obtain ⟨g, o, p, rfl, hgl, hx, c1⟩ := view_at (hV.out.below hbw) hlt
          have hk01 : (0 : Int) ≤ (k : Int) := Int.natCast_nonneg _
          have hk02 : (k : Int) < (m : Int) := by omega
          by_cases hlast : k + 1 < m
          · rw [Nat.min_eq_left (show k ≤ m - 1 by omega)]
            obtain ⟨r0, r1⟩ := hrg.out k
            obtain ⟨p1, p2⟩ := hpo0.out p (List.mem_of_getElem? hx.out)
            have hA := hA (by omega)
            subst hA
            have hwa := Lib.hid (waste9_impl b (off + p.1) (p.2 - p.1) (c - p.1) (lineW ws p) wd wr (view_strs (hS.below hbw) p1 p2) (by omega) (by omega) (by omega) (fun x hx => by have := (hws0.out x (lineW_mem hx)).2.1; omega) (by omega) (by omega))
            have hnx := Lib.hid (hnx0.out k p hx.out)
            have hft : (longN (lineW ws p) : Int) ≤ wd := by
              have := List.all_eq_true.1 hfi0.out p (List.mem_of_getElem? hx.out)
              simpa [fitB] using this
            have hsq : Hid (sqW ws wd p = (wd - (longN (lineW ws p) : Int)) * (wd - (longN (lineW ws p) : Int))) := Lib.hid rfl
            generalize longN (lineW ws p) = LN at *
            obtain ⟨s0, s1⟩ := sq_range (x := wd - (LN : Int)) (by omega) (by omega)
            generalize wd - (LN : Int) = X at *
            have hsr := Lib.hid (fun W => square9 X _ rfl s0 s1 W)
            generalize X * X = Z at *
            have hw3 : IntKind.i64.wrap (badN ws wd ps k + Z) = badN ws wd ps k + Z := IntWalk.i64_in _ (by omega)
            have hlt2 : (k : Int) < (m : Int) - 1 := by omega
            generalize badN ws wd ps k = Y at *
            clear r0 r1 s0 s1 hft
            go_wp2_with fail
            refine hwa.out.mono ?_
            rintro e1 w5 ⟨rfl, hb5⟩
            have hbw5 := hbw.trans (hb5.mono hwz)
            clear hb5 c1 hwa
            go_wp2_with fail
            refine (hsr.out _).mono ?_
            rintro e1 w6 ⟨rfl, rfl⟩
            go_wp2
            go_roundw
            case rel => exact ⟨k + 1, by omega, by go_num, by rw [Nat.min_eq_left (show k + 1 ≤ m - 1 by omega), hnx.out, hsq.out], hbw5⟩
            case measure => simp [intOf]; omega
          · have hlt2 : ¬ (k : Int) < (m : Int) - 1 := by omega
            have hmin : Hid (min k (m - 1) = min (k + 1) (m - 1)) := Lib.hid (by omega)
            go_wp2
            go_roundw
            case rel => exact ⟨k + 1, by omega, by go_num, by rw [hmin.out], hbw⟩
            case measure => simp [intOf]; omega
        · have hkm : Hid (badN ws wd ps (min k (m - 1)) = badN ws wd ps (m - 1)) := Lib.hid (by rw [show min k (m - 1) = m - 1 by omega])
          have hk02 : ¬ (k : Int) < (m : Int) := by omega
          have hbe := hb13.step hbw
          go_wp2
          go_ret2
          exact ⟨by rw [← hkm.out]; rfl, hbe⟩
    · exact absurd rfl h9
  · have hbad := bdR_bad hq h0
    obtain ⟨rfl, rfl⟩ : ra = 0 ∧ rb = q := by have := hv.out; rw [hbad] at this; simpa [eq_comm] using this
    have g0 : (rb == 0) = false := beq_eq_false_iff_ne.2 h0
    replace h0 := Lib.hid h0
    clear hq hv hbad h hB hg
    go_enter Try.func24, Try.ntmps24
    go_wp2_with fail
    refine hc1.out.mono ?_
    rintro e w3 ⟨hb1, ⟨h9, _⟩ | ⟨_, rfl⟩⟩
    · exact absurd h9 h0.out
    · go_wp2
      go_ret2
      exact ⟨rfl, hb1⟩
theorem bd9_impl (A : Option Addr) (n m : Nat) (ws : List ByteArray) (wd : Int) (B : Option Addr) (k0 c0 : Nat) (bs : List Int) (w : World) (h : Strs w A n ws) (hn : n ≤ 1048576) (hg : ∀ x ∈ ws, strGood x) (hw : (Lit.int .i64 wd).wf = true) (hB : Ints w B k0 bs) (hk0 : k0 ≤ 1048576) (hbg : ∀ x ∈ bs, intGood x) :
    Calls Try.prog 24 #[.slice A n n, .int .i64 wd, .slice B k0 c0] w fun e w' => e = .returned (.tuple #[.int .i64 (bdR ws wd bs).1, .int .i64 (bdR ws wd bs).2]) ∧ Below w.heap.size w w' := bd9_implC A n n ws wd B k0 c0 bs w h hB hn (Nat.le_refl _) hk0 hg rfl
end Go.Proofs.Ytcaojaaooadeaaa
