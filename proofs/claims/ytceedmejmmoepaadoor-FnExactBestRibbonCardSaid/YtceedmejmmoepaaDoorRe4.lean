/- Ribbons: the program's BestRibbon, whole. -/
import Derived.Test.YtceedmejmmoepaaDoorRe3
namespace Go.Proofs.YtceedmejmmoepaaDoor
open Go.RowKit Go.ChangeShapes Go.WideShapes Go.Deep
set_option linter.unusedVariables false
set_option linter.unusedSimpArgs false

theorem owns_int14 {w : World} {base n : Nat} {L : Value} {l : List Int} (hn : l.length = n) (h : w.ownsRow base 3 1 L n (l.flatMap intC)) : ∃ A c, L = .slice A n c ∧ Ints w A n l ∧ n ≤ c := by
  obtain ⟨A, c, h1, h2⟩ : ∃ A c, L = .slice A l.length c ∧ ORow 3 1 intC w base A l.length l := ORow.of_owns (fun _ => rfl) (by rw [hn]; exact h)
  rw [hn] at h1 h2
  refine ⟨A, c, h1, h2.srow, ?_⟩
  obtain ⟨_, ⟨e, h0⟩ | ⟨g, cap, cur, e, hb, hg, hc, _⟩⟩ := h
  · rw [h1] at e; cases e; omega
  · rw [h1] at e; cases e; exact hc
theorem cap_new14 (e : Addr) (xs : List RibbonD) (ps : List Int) (sn l : Int) (A B : Option Addr) (n c m d : Nat) (w : World) (hA : Ribbons w A n xs) (hB : Ints w B m ps) (hE : ErrC e w) :
    CapB e xs ps sn l A B n c m d w.heap.size ((((w.alloc (.cells #[.slice A n c] 36)).alloc (.cells #[.slice B m d] 32)).alloc (.cells #[.int .i64 sn] 2)).alloc (.cells #[.int .i64 l] 2)) := by
  have hb : Below w.heap.size w ((((w.alloc (.cells #[.slice A n c] 36)).alloc (.cells #[.slice B m d] 32)).alloc (.cells #[.int .i64 sn] 2)).alloc (.cells #[.int .i64 l] 2)) := ((((Below.refl _ _).alloc (Nat.le_refl _) _).alloc (by simp) _).alloc (by simp; omega) _).alloc (by simp; omega) _
  exact ⟨cell_step (cell_step (cell_step (cell_new (by simp) rfl) (below_a1 _ _)) (below_a1 _ _)) (below_a1 _ _), cell_step (cell_step (cell_new (by simp) rfl) (below_a1 _ _)) (below_a1 _ _), cell_step (cell_new (by simp) rfl) (below_a1 _ _), cell_new (by simp) rfl, hA.below hb, hB.below hb, hE.step hb⟩
set_option maxRecDepth 100000 in
set_option maxHeartbeats 3200000 in
theorem br14_impl (e : Addr) (A : Option Addr) (n c : Nat) (xs : List RibbonD) (B : Option Addr) (m d : Nat) (ps : List Int) (sn l : Int) (w : World) (hA : Ribbons w A n xs) (hn : n ≤ 1048576) (hgx : ∀ x ∈ xs, x.good) (hB : Ints w B m ps) (hm : m ≤ 1048576) (hgp : ∀ x ∈ ps, intGood x) (hws : (Lit.int .i64 sn).wf = true) (hwl : (Lit.int .i64 l).wf = true) (hE : ErrC e w) :
    Calls Tryd.prog 16 #[.slice A n c, .slice B m d, .int .i64 sn, .int .i64 l] w fun e' w' => e' = .returned (.tuple #[.int .i64 (brR xs ps sn l).1, .int .i64 (brR xs ps sn l).2.1, .int .i64 (brR xs ps sn l).2.2]) ∧ Below w.heap.size w w' := by
  generalize hq : brR xs ps sn l = q
  have hr := Lib.hid hq.symm
  have hla := hA.1
  have hlb := hB.1
  have hC0 := cap_new14 e xs ps sn l A B n c m d w hA hB hE
  have hb0 : Below w.heap.size w ((((w.alloc (.cells #[.slice A n c] 36)).alloc (.cells #[.slice B m d] 32)).alloc (.cells #[.int .i64 sn] 2)).alloc (.cells #[.int .i64 l] 2)) := ((((Below.refl _ _).alloc (Nat.le_refl _) _).alloc (by simp) _).alloc (by simp; omega) _).alloc (by simp; omega) _
  have hmf : ∀ (fn : Fn) (first cap : Array Value) (w : World), (Instr.makeFunc fn first cap).run Tryd.prog w = .ok (.func fn first cap) w := fun _ _ _ _ => rfl
  clear hq hgx hgp hws hwl hE hA hB
  cases h1 : xs.all rbB with
  | false =>
    have hv : Hid (q = (0, 0, 1)) := Lib.hid (by
      have e1 : brC xs ps sn l = 1 := by rw [brC, if_neg (by rw [h1]; decide)]
      rw [hr.out, brR, e1, if_neg (by decide)])
    have hc := Lib.hid (has_rib14 A n c xs h1 _ hC0.hA hn)
    replace hb0 := Lib.hid hb0
    have hC0' := Lib.hid hC0
    obtain ⟨q0, q1, q2, q3, _, _, _⟩ := hC0
    go_enter Tryd.func16, Tryd.ntmps16
    go_wp2_with fail
    refine hc.out.mono ?_
    rintro e' w1 ⟨rfl, hb1⟩
    replace hb1 := Lib.hid (hb0.out.step hb1)
    go_wp2
    go_ret3
    exact ⟨ret8_3 hv.out, hb1.out⟩
  | true =>
    have hc := Lib.hid (has_rib14 A n c xs h1 _ hC0.hA hn)
    have hbad : Hid (¬ (ps.all priB = true ∧ xs.length ≤ 20 ∧ ps.length = xs.length ∧ inR sn 0 100000 = true ∧ inR l 1 1000 = true) → q = (0, 0, 2)) := Lib.hid (fun h => by
      have e1 : brC xs ps sn l = 2 := by rw [brC, if_pos h1, if_neg h]
      rw [hr.out, brR, e1, if_neg (by decide)])
    cases h2 : inR sn 0 100000 with
    | false =>
      have hv := Lib.hid (hbad.out (fun h => by rw [h2] at h; cases h.2.2.2.1))
      have hu := Lib.hid (fun W => isu14i h2 W)
      clear h1 h2 hbad
      replace hb0 := Lib.hid hb0
      have hC0' := Lib.hid hC0
      obtain ⟨q0, q1, q2, q3, _, _, _⟩ := hC0
      go_enter Tryd.func16, Tryd.ntmps16
      go_wp2_with fail
      refine hc.out.mono ?_
      rintro e' w1 ⟨rfl, hb1⟩
      have hC1 := Lib.hid (hC0'.out.step hb1)
      have hbz := Lib.hid (hb0.out.step hb1)
      clear hb1 q0 q1 q2 q3
      obtain ⟨q0, q1, q2, q3, _, _, _⟩ := hC1.out
      go_wp2_with fail
      refine (hu.out _).mono ?_
      rintro e' w1' ⟨rfl, rfl⟩
      go_wp2
      go_ret3
      exact ⟨ret8_3 hv.out, hbz.out⟩
    | true =>
      have hu := Lib.hid (fun W => isu14i h2 W)
      cases h3 : inR l 1 1000 with
      | false =>
        have hv := Lib.hid (hbad.out (fun h => by rw [h3] at h; cases h.2.2.2.2))
        have hi := Lib.hid (fun W => in8_impl h3 W)
        clear h1 h2 h3 hbad
        replace hb0 := Lib.hid hb0
        have hC0' := Lib.hid hC0
        obtain ⟨q0, q1, q2, q3, _, _, _⟩ := hC0
        go_enter Tryd.func16, Tryd.ntmps16
        go_wp2_with fail
        refine hc.out.mono ?_
        rintro e' w1 ⟨rfl, hb1⟩
        have hC1 := Lib.hid (hC0'.out.step hb1)
        have hbz := Lib.hid (hb0.out.step hb1)
        clear hb1 q0 q1 q2 q3
        obtain ⟨q0, q1, q2, q3, _, _, _⟩ := hC1.out
        go_wp2_with fail
        refine (hu.out _).mono ?_
        rintro e' w1' ⟨rfl, rfl⟩
        go_wp2_with fail
        refine (hi.out _).mono ?_
        rintro e' w1' ⟨rfl, rfl⟩
        go_wp2
        go_ret3
        exact ⟨ret8_3 hv.out, hbz.out⟩
      | true =>
        have hi := Lib.hid (fun W => in8_impl h3 W)
        by_cases h4 : n ≤ 20
        · have g2 : decide ((20 : Int) < (n : Int)) = false := decide_eq_false (by omega)
          have g2' : decide (20 < n) = false := decide_eq_false (by omega)
          cases h5 : (decide (m = n) && ps.all priB) with
          | false =>
            have hv := Lib.hid (hbad.out (fun h => by
              have e1 : m = n := by have := h.2.2.1; omega
              rw [e1, h.1] at h5
              simp at h5))
            have hp := Lib.hid (fun W hB => arep14 B m d ps n h5 W hB hm)
            clear h1 h2 h3 h5 hbad
            replace hb0 := Lib.hid hb0
            have hC0' := Lib.hid hC0
            obtain ⟨q0, q1, q2, q3, _, _, _⟩ := hC0
            go_enter Tryd.func16, Tryd.ntmps16
            go_wp2_with fail
            refine hc.out.mono ?_
            rintro e' w1 ⟨rfl, hb1⟩
            have hC1 := Lib.hid (hC0'.out.step hb1)
            have hbz := Lib.hid (hb0.out.step hb1)
            clear hb1 q0 q1 q2 q3
            obtain ⟨q0, q1, q2, q3, _, _, _⟩ := hC1.out
            go_wp2_with fail
            refine (hu.out _).mono ?_
            rintro e' w1' ⟨rfl, rfl⟩
            go_wp2_with fail
            refine (hi.out _).mono ?_
            rintro e' w1' ⟨rfl, rfl⟩
            go_wp2_with fail
            refine (hp.out _ hC1.out.hB).mono ?_
            rintro e' w2 ⟨rfl, hb2⟩
            replace hbz := Lib.hid (hbz.out.step hb2)
            go_wp2
            go_ret3
            exact ⟨ret8_3 hv.out, hbz.out⟩
          | true =>
            have hp := Lib.hid (fun W hB => arep14 B m d ps n h5 W hB hm)
            simp only [Bool.and_eq_true, decide_eq_true_eq] at h5
            obtain ⟨h6, h7⟩ := h5
            obtain ⟨s0, s1⟩ := inR_iff.1 h2
            obtain ⟨t0, t1⟩ := inR_iff.1 h3
            have hqq : Hid (q = if (bsF xs ps sn l n).1 < 0 then (0, 0, 3) else ((bsF xs ps sn l n).1, (bsF xs ps sn l n).2, 0)) := Lib.hid (by
              have e1 : brC xs ps sn l = 0 := by rw [brC, if_pos h1, if_pos ⟨h7, by omega, by omega, h2, h3⟩]
              rw [hr.out, brR, e1, if_pos rfl, hla])
            obtain ⟨x1, x2⟩ := bs_idx xs ps sn l (by omega) n (by omega)
            have hin := Lib.hid (idxL_in xs l n)
            have hlen := Lib.hid (idxL_len xs l n)
            have hcost := Lib.hid (fun (x : Int) hx W h => cost14 e xs ps sn l A B n c m d w.heap.size h1 h7 h6 s0 s1 t0 h4 x hx W h)
            have hwk := Lib.hid (fun W hA => wink14 A n c xs l W hA h4)
            replace h6 := Lib.hid h6
            clear h1 h2 h3 h7 hbad hr
            replace hb0 := Lib.hid hb0
            have hC0' := Lib.hid hC0
            obtain ⟨q0, q1, q2, q3, _, _, _⟩ := hC0
            go_enter Tryd.func16, Tryd.ntmps16
            go_wp2_with fail
            refine hc.out.mono ?_
            rintro e' w1 ⟨rfl, hb1⟩
            have hC1 := Lib.hid (hC0'.out.step hb1)
            have hbz := Lib.hid (hb0.out.step hb1)
            clear hb1 q0 q1 q2 q3
            obtain ⟨q0, q1, q2, q3, _, _, _⟩ := hC1.out
            go_wp2_with fail
            refine (hu.out _).mono ?_
            rintro e' w1' ⟨rfl, rfl⟩
            go_wp2_with fail
            refine (hi.out _).mono ?_
            rintro e' w1' ⟨rfl, rfl⟩
            go_wp2_with fail
            refine (hp.out _ hC1.out.hB).mono ?_
            rintro e' w2 ⟨rfl, hb2⟩
            replace hbz := Lib.hid (hbz.out.step hb2)
            have hC2 := Lib.hid (hC1.out.step hb2)
            clear hb2 q0 q1 q2 q3 hC1
            obtain ⟨q0, q1, q2, q3, _, _, _⟩ := hC2.out
            go_wp2_with fail
            refine (hwk.out _ hC2.out.hA).mono ?_
            rintro e' w3 ⟨V, rfl, hrow, hb3⟩
            replace hbz := Lib.hid (hbz.out.step hb3)
            have hC3 := Lib.hid (hC2.out.step hb3)
            obtain ⟨A', c', rfl, hL, hnc⟩ := owns_int14 rfl hrow
            clear hb3 hrow q0 q1 q2 q3 hC2
            by_cases hz : idxL xs l n = []
            · have hv : Hid (q = (0, 0, 3)) := Lib.hid (by rw [hqq.out, x1 hz, if_pos (by decide)])
              rw [hz] at *
              simp only [List.length_nil] at *
              clear x1 x2 hqq
              go_wp2
              go_ret3
              exact ⟨ret8_3 hv.out, hbz.out⟩
            · have hlp : 1 ≤ (idxL xs l n).length := by
                rcases Nat.eq_zero_or_pos (idxL xs l n).length with h0 | h0
                · exact absurd (List.length_eq_zero_iff.1 h0) hz
                · exact h0
              have hnn := flG_nn (costV xs ps sn l) hz (fun y hy => by obtain ⟨i, rfl, _⟩ := hin.out y hy; omega)
              rw [x2 hz] at hnn
              have hv : Hid (q = ((bsF xs ps sn l n).1, (bsF xs ps sn l n).2, 0)) := Lib.hid (by rw [hqq.out, if_neg (by omega)])
              have hfl := Lib.hid (fl14i e xs ps sn l A B n c m d w.heap.size hcost.out A' _ c' (idxL xs l n) w3 hL hlp (by have := hlen.out; omega) hnc hin.out hC3.out)
              rw [x2 hz] at hfl
              generalize bsF xs ps sn l n = F at *
              generalize (idxL xs l n).length = k at *
              have z1 : ((k : Int) == 0) = false := beq_eq_false_iff_ne.2 (by omega)
              have z2 : (k == 0) = false := beq_eq_false_iff_ne.2 (by omega)
              clear x1 x2 hqq hz hnn hL
              go_wp2_with fail
              refine (hfl.out).mono ?_
              rintro e' w4 ⟨rfl, hb4⟩
              replace hbz := Lib.hid (hbz.out.step hb4)
              go_wp2
              go_ret3
              exact ⟨ret8_3 hv.out, hbz.out⟩
        · have g2 : decide ((20 : Int) < (n : Int)) = true := decide_eq_true (by omega)
          have g2' : decide (20 < n) = true := decide_eq_true (by omega)
          have hv := Lib.hid (hbad.out (fun h => h4 (by have := h.2.1; omega)))
          clear h1 h2 h3 hbad
          replace hb0 := Lib.hid hb0
          have hC0' := Lib.hid hC0
          obtain ⟨q0, q1, q2, q3, _, _, _⟩ := hC0
          go_enter Tryd.func16, Tryd.ntmps16
          go_wp2_with fail
          refine hc.out.mono ?_
          rintro e' w1 ⟨rfl, hb1⟩
          have hC1 := Lib.hid (hC0'.out.step hb1)
          have hbz := Lib.hid (hb0.out.step hb1)
          clear hb1 q0 q1 q2 q3
          obtain ⟨q0, q1, q2, q3, _, _, _⟩ := hC1.out
          go_wp2_with fail
          refine (hu.out _).mono ?_
          rintro e' w1' ⟨rfl, rfl⟩
          go_wp2_with fail
          refine (hi.out _).mono ?_
          rintro e' w1' ⟨rfl, rfl⟩
          go_wp2
          go_ret3
          exact ⟨ret8_3 hv.out, hbz.out⟩
theorem br14_spec (A : Option Addr) (n c : Nat) (xs : List RibbonD) (B : Option Addr) (m d : Nat) (ps : List Int) (sn l : Int) (w : World) (hA : Ribbons w A n xs) (hn : n ≤ 1048576) (hgx : ∀ x ∈ xs, x.good) (hB : Ints w B m ps) (hm : m ≤ 1048576) (hgp : ∀ x ∈ ps, intGood x) (hws : (Lit.int .i64 sn).wf = true) (hwl : (Lit.int .i64 l).wf = true) :
    Calls Tryd.prog 13 #[.slice A n c, .slice B m d, .int .i64 sn, .int .i64 l] w fun e' w' => e' = .returned (.tuple #[.int .i64 (brR xs ps sn l).1, .int .i64 (brR xs ps sn l).2.1, .int .i64 (brR xs ps sn l).2.2]) ∧ Below w.heap.size w w' := br14W A n c xs B m d ps sn l w hA hn hB hm rfl
end Go.Proofs.YtceedmejmmoepaaDoor
