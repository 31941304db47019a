/- Centring: BoxLines and CentreBlock of the program. -/
import Derived.Test.YtalmpiffjghhkaaCen7
namespace Go.Proofs.Ytalmpiffjghhkaa
open Go.RowKit Go.ChangeShapes Go.WideShapes Go.Deep
set_option linter.unusedVariables false
set_option linter.unusedSimpArgs false

theorem Typed.mono {B B' b : Nat} {T : TypeId} {rest : List Value} {L : List ByteArray} {w : World} (h : Typed B b T rest L w) (hB : B' ≤ B) : Typed B' b T rest L w := by
  obtain ⟨h1, v, h2, h3, h4⟩ := h
  exact ⟨Nat.le_trans hB h1, v, h2, own_mono10 h3 hB, h4⟩
theorem typed_new (w : World) (T : TypeId) (rest : List Value) : Typed w.heap.size w.heap.size T rest [] (w.alloc (.cells (.slice none 0 0 :: rest).toArray T)) :=
  ⟨Nat.le_refl _, .slice none 0 0, heap_alloc_new _ _, owns_nil8 _ _ _, by simp [Value.ownBlock]⟩
theorem linesB_no {ls : List ByteArray} {n : Nat} (hl : ls.length = n) (h : (decide (n ≤ 30) && ls.all lineB) = false) : linesB ls < 0 := by
  unfold linesB
  cases h1 : ls.all lineB with
  | false => rw [if_neg (by simp)]; decide
  | true =>
    rw [h1, Bool.and_true] at h
    have := of_decide_eq_false h
    rw [if_pos rfl, if_pos (by omega)]
    decide
theorem linesB_yes {ls : List ByteArray} {n : Nat} (hl : ls.length = n) (h : (decide (n ≤ 30) && ls.all lineB) = true) : n ≤ 30 ∧ ¬ linesB ls < 0 := by
  simp only [Bool.and_eq_true, decide_eq_true_eq] at h
  refine ⟨h.1, ?_⟩
  unfold linesB
  rw [if_pos h.2, if_neg (by omega)]
  omega
set_option maxRecDepth 100000 in
set_option maxHeartbeats 2400000 in
theorem box10_implC (A : Option Addr) (n c : Nat) (ls : List ByteArray) (w : World) (h : Strs w A n ls) (hn : n ≤ 1048576) (hg : ∀ x ∈ ls, x.size ≤ maxLen) :
    Calls Try.prog 11 #[.slice A n c] w (TOut (boR ls) w) := by
  have hl := Lib.hid h.1
  generalize hv : boR ls = res
  replace hv := Lib.hid hv
  obtain ⟨v, hbv⟩ : ∃ v, (decide (n ≤ 30) && ls.all lineB) = v := ⟨_, rfl⟩
  have hc1 := Lib.hid (fun W hW => block10 A n c ls lineB (tests_line hg) hbv W hW hn)
  cases v with
  | false =>
    have hres : Hid (res = ([], 2)) := Lib.hid (by rw [← hv.out, boR, if_pos (linesB_no hl.out hbv)])
    clear hbv hv hg
    go_enter Try.func11, Try.ntmps11
    go_wp2_with fail
    refine (hc1.out _ h).mono ?_
    rintro e w1 ⟨rfl, hb1⟩
    go_wp2
    go_ret2
    exact TOut.bad hres.out hb1
  | true =>
    obtain ⟨n30, hpos⟩ := linesB_yes hl.out hbv
    obtain ⟨l30, e1, l100, hxs⟩ := linesB_ok hpos
    have hlo := Lib.hid (fun W hW => longest10 A n c ls W hW (by omega) (fun x hx => by have := hxs x hx; omega))
    obtain ⟨M, hM⟩ : ∃ M, mostL ls = M := ⟨_, rfl⟩
    rw [hM] at e1 l100 hxs hlo
    have hw1 : IntKind.i64.wrap ((M : Int) + 4) = ((M + 4 : Nat) : Int) := by rw [IntWalk.i64_in _ (by omega)]; omega
    by_cases h96 : 96 < M
    · have hres : Hid (res = ([], 5)) := Lib.hid (by rw [← hv.out, boR, if_neg hpos, e1, if_pos (by omega)])
      obtain ⟨D, hD⟩ : ∃ D, M + 4 = D := ⟨_, rfl⟩
      rw [hD] at hw1
      have g1 : decide ((100 : Int) < (D : Int)) = true := decide_eq_true (by omega)
      have g2 : decide (100 < D) = true := decide_eq_true (by omega)
      replace hD := Lib.hid hD
      replace h96 := Lib.hid h96
      clear hbv hv hg hpos e1 hM hxs
      go_enter Try.func11, Try.ntmps11
      go_wp2_with fail
      refine (hc1.out _ h).mono ?_
      rintro e w1 ⟨rfl, hb1⟩
      have hS1 := h.below hb1
      go_wp2_with fail
      refine (hlo.out _ hS1).mono ?_
      rintro e w2 ⟨rfl, hb2⟩
      have hb02 := Lib.hid (hb1.step hb2)
      clear hb1 hb2 hS1
      go_wp2
      go_ret2
      exact TOut.bad hres.out (hb02.out.alloc hb02.out.size _)
    · have hres : Hid (res = (boE M :: ls.map (boL M) ++ [boE M], 0)) := Lib.hid (by rw [← hv.out, boR, if_neg hpos, e1, if_neg (by omega), Int.toNat_natCast])
      have hfr := Lib.hid (fun w0 b W h0 hb0 hT => framed10 w0 b M A n c ls W h0 hb0 hT (by omega) (by omega) hxs)
      obtain ⟨D, hD⟩ : ∃ D, M + 4 = D := ⟨_, rfl⟩
      rw [hD] at hw1 hfr
      have g1 : decide ((100 : Int) < (D : Int)) = false := decide_eq_false (by omega)
      have g2 : decide (100 < D) = false := decide_eq_false (by omega)
      have hlen : (boE M :: ls.map (boL M) ++ [boE M]).length = n + 2 := by simp [hl.out]
      generalize boE M :: ls.map (boL M) ++ [boE M] = RL at *
      replace hlen := Lib.hid hlen
      replace hD := Lib.hid hD
      replace h96 := Lib.hid h96
      clear hbv hv hg hpos e1 hM hxs
      go_enter Try.func11, Try.ntmps11
      go_wp2_with fail
      refine (hc1.out _ h).mono ?_
      rintro e w1 ⟨rfl, hb1⟩
      have hS1 := h.below hb1
      go_wp2_with fail
      refine (hlo.out _ hS1).mono ?_
      rintro e w2 ⟨rfl, hb2⟩
      have hb02 := Lib.hid (hb1.step hb2)
      have hS2 := hS1.below hb2
      clear hb1 hb2 hS1
      go_wp2_with fail
      refine (hfr.out w2 w2.heap.size _ hS2 (below_a1 w2 _) (typed_new w2 45 [.int .i64 (D : Int)])).mono ?_
      rintro e w3 ⟨rfl, hT3, hb3⟩
      have hT9 := hT3.mono hb02.out.size
      obtain ⟨A9, c9, c0, hO⟩ := hT9.cell0
      have hbl := hT9.lt
      have hbe := Lib.hid (hb02.out.step ((below_a1 w2 (.cells #[.slice none 0 0, .int .i64 (D : Int)] 45)).trans hb3))
      replace hO := Lib.hid hO
      clear hT3 hT9 hb3 hb02
      go_wp2
      go_ret2
      exact ⟨A9, RL.length, c9, by rw [hres.out, hlen.out]; rfl, by rw [hlen.out]; omega, by rw [hres.out]; exact hO.out, hbe.out⟩
set_option maxRecDepth 100000 in
set_option maxHeartbeats 3200000 in
theorem cb10_implC (A : Option Addr) (n c : Nat) (ls : List ByteArray) (wd : Int) (w : World) (h : Strs w A n ls) (hn : n ≤ 1048576) (hg : ∀ x ∈ ls, x.size ≤ maxLen) (hwf : (Lit.int .i64 wd).wf = true) :
    Calls Try.prog 16 #[.slice A n c, .int .i64 wd] w (TOut (cbR ls wd) w) := by
  clear hwf
  have hl := Lib.hid h.1
  generalize hv : cbR ls wd = res
  replace hv := Lib.hid hv
  obtain ⟨v, hbv⟩ : ∃ v, (decide (n ≤ 30) && ls.all lineB) = v := ⟨_, rfl⟩
  have hc1 := Lib.hid (fun W hW => block10 A n c ls lineB (tests_line hg) hbv W hW hn)
  cases v with
  | false =>
    have hres : Hid (res = ([], 2)) := Lib.hid (by rw [← hv.out, cbR, if_pos (linesB_no hl.out hbv)])
    clear hbv hv hg
    go_enter Try.func16, Try.ntmps16
    go_wp2_with fail
    refine (hc1.out _ h).mono ?_
    rintro e w1 ⟨rfl, hb1⟩
    go_wp2
    go_ret2
    exact TOut.bad hres.out hb1
  | true =>
    obtain ⟨n30, hpos⟩ := linesB_yes hl.out hbv
    obtain ⟨l30, e1, l100, hxs⟩ := linesB_ok hpos
    cases hw : inR wd 1 100 with
    | false =>
      have hres : Hid (res = ([], 2)) := Lib.hid (by rw [← hv.out, cbR, if_neg hpos, hw]; rfl)
      have hc2 := Lib.hid (fun W => width10 wd hw W)
      clear hbv hv hg hpos hxs hw e1
      go_enter Try.func16, Try.ntmps16
      go_wp2_with fail
      refine (hc1.out _ h).mono ?_
      rintro e w1 ⟨rfl, hb1⟩
      go_wp2_with fail
      refine (hc2.out _).mono ?_
      rintro e w2 ⟨rfl, rfl⟩
      go_wp2
      go_ret2
      exact TOut.bad hres.out hb1
    | true =>
      have hc2 := Lib.hid (fun W => width10 wd hw W)
      have hlo := Lib.hid (fun W hW => longest10 A n c ls W hW (by omega) (fun x hx => by have := hxs x hx; omega))
      obtain ⟨d1, d2⟩ : 1 ≤ wd ∧ wd ≤ 100 := inR_iff.1 hw
      obtain ⟨M, hM⟩ : ∃ M, mostL ls = M := ⟨_, rfl⟩
      rw [hM] at e1 l100 hxs hlo
      by_cases h5 : wd < (M : Int)
      · have hres : Hid (res = ([], 5)) := Lib.hid (by rw [← hv.out, cbR, if_neg hpos, if_pos hw, e1, if_pos h5])
        obtain ⟨r, hr⟩ : ∃ r, wd - (M : Int) = r := ⟨_, rfl⟩
        have hw1 : IntKind.i64.wrap (wd - (M : Int)) = r := by rw [IntWalk.i64_in _ (by omega)]; exact hr
        have g1 : decide (r < 0) = true := decide_eq_true (by omega)
        replace hr := Lib.hid hr
        replace h5 := Lib.hid h5
        clear hbv hv hg hpos e1 hM hxs hw
        go_enter Try.func16, Try.ntmps16
        go_wp2_with fail
        refine (hc1.out _ h).mono ?_
        rintro e w1 ⟨rfl, hb1⟩
        go_wp2_with fail
        refine (hc2.out _).mono ?_
        rintro e w2 ⟨rfl, rfl⟩
        have hS1 := h.below hb1
        go_wp2_with fail
        refine (hlo.out _ hS1).mono ?_
        rintro e w2 ⟨rfl, hb2⟩
        have hb02 := Lib.hid (hb1.step hb2)
        clear hb1 hb2 hS1
        go_wp2
        go_ret2
        exact TOut.bad hres.out hb02.out
      · obtain ⟨W, rfl⟩ : ∃ W : Nat, wd = (W : Int) := ⟨wd.toNat, by omega⟩
        obtain ⟨d, hd⟩ : ∃ d : Nat, W - M = d := ⟨_, rfl⟩
        have hres : Hid (res = (ls.map (fun x => repB 32 (d / 2) ++ x), 0)) := Lib.hid (by
          rw [← hv.out, cbR, if_neg hpos, if_pos hw, e1, if_neg h5, show ((W : Int) - (M : Int)).toNat = d by omega])
        have hw1 : IntKind.i64.wrap ((W : Int) - (M : Int)) = (d : Int) := by rw [IntWalk.i64_in _ (by omega)]; omega
        have hhf := Lib.hid (fun W' => half10 d (by omega) W')
        have he0 : d / 2 ≤ d := Nat.div_le_self _ _
        obtain ⟨e, he⟩ : ∃ e, d / 2 = e := ⟨_, rfl⟩
        rw [he] at hres hhf he0
        have hbl := Lib.hid (fun W' => blanks10_impl e (by omega) W')
        have hbs := repB_size 32 e
        have hBz : (repB 32 e).size ≤ 100 := by omega
        have hlen : Hid ((ls.map (fun x => repB 32 e ++ x)).length = n) := Lib.hid (by rw [List.length_map, hl.out])
        have g1 : decide ((d : Int) < 0) = false := decide_eq_false (by omega)
        have hx0 := Lib.hid hxs
        have h5' := Lib.hid h5
        replace hd := Lib.hid hd
        replace he := Lib.hid he
        clear hbv hv hg hpos e1 hM hxs hw h5
        generalize repB 32 e = BB at *
        clear hbs
        go_enter Try.func16, Try.ntmps16
        go_wp2_with fail
        refine (hc1.out _ h).mono ?_
        rintro e w1 ⟨rfl, hb1⟩
        go_wp2_with fail
        refine (hc2.out _).mono ?_
        rintro e w2 ⟨rfl, rfl⟩
        have hS1 := h.below hb1
        go_wp2_with fail
        refine (hlo.out _ hS1).mono ?_
        rintro e w2 ⟨rfl, hb2⟩
        have hb02 := Lib.hid (hb1.step hb2)
        have hS2 := hS1.below hb2
        clear hb1 hb2 hS1 hc1 hc2 hlo
        go_wp2
        go_loopw [9, 26] (fun a q wr => ∃ k : Nat, k ≤ n ∧ q = .int .i64 k ∧ Typed w2.heap.size w2.heap.size 43 [] ((ls.take k).map (fun x => BB ++ x)) wr ∧ Below w2.heap.size w2 wr) (fun _ q _ => n - (intOf q).toNat)
        case atStart => exact ⟨0, by omega, rfl, typed_new w2 43 [], below_a1 _ _⟩
        case round =>
          rename World => wr
          obtain ⟨k, hk, rfl, hTr, hbw⟩ := hrel
          have hwz := hbw.size
          by_cases hlt : k < n
          · obtain ⟨bb, off, x, rfl, hb, hx, d0⟩ := str_at (hS2.below hbw) hlt
            have hxz := hx0.out x (List.mem_of_getElem? hx.out)
            have hk0 : (0 : Int) ≤ (k : Int) := Int.natCast_nonneg _
            have hk1 : (k : Int) < (n : Int) := by omega
            have hsn : Hid ((ls.take (k + 1)).map (fun x => BB ++ x) = (ls.take k).map (fun x => BB ++ x) ++ [BB ++ x]) := Lib.hid (by rw [take8 hx.out, List.map_append]; rfl)
            have hll : Hid (((ls.take k).map (fun x => BB ++ x)).length ≤ 100) := Lib.hid (by simp only [List.length_map, List.length_take]; omega)
            have hJs : (BB ++ x).size ≤ 300 := by rw [ByteArray.size_append]; omega
            have hJ : Hid (joinB [BB, x] = BB ++ x) := Lib.hid (joinB2 _ _)
            generalize (ls.take k).map (fun x => BB ++ x) = LL at *
            generalize BB ++ x = JL at *
            replace hTr := Lib.hid hTr
            replace hJs := Lib.hid hJs
            go_wp2_with fail
            refine (hhf.out _).mono ?_
            rintro e w3 ⟨rfl, rfl⟩
            go_wp2_with fail
            refine (hbl.out _).mono ?_
            rintro e w4 ⟨rfl, hb4⟩
            have hT5 := (hTr.out.below hb4).below (below_a1 w4 (.cells #[.string BB, .string x] 9))
            have hz4 := Nat.le_trans hwz hb4.size
            have hb5 := Lib.hid ((below_step10 hbw hb4 hwz).alloc hz4 (.cells #[.string BB, .string x] 9))
            have hB5 : w2.heap.size ≤ (w4.alloc (.cells #[.string BB, .string x] 9)).heap.size := hb5.out.size
            clear hTr hb4
            go_wp2_with fail
            refine (add10 w2.heap.size w2.heap.size 43 [] LL w4.heap.size 2 2 [BB, x] _ hT5 (lit10 w4 9 [BB, x]) (by simp) rfl (by omega) (by omega) (by have := hll.out; omega) hB5 hJ.out (by have := hJs.out; omega)).mono ?_
            rintro e w9 ⟨rfl, hT9, hb9⟩
            have hb09 := Lib.hid (hb5.out.trans hb9)
            replace hT9 := Lib.hid hT9
            clear hT5 hb5 hb9
            go_wp2
            go_roundw
            case rel => exact ⟨k + 1, by omega, by go_num, by rw [hsn.out]; exact hT9.out, hb09.out⟩
            case measure => simp [intOf]; omega
          · obtain rfl : k = n := by omega
            have g1 : ¬ (k : Int) < (k : Int) := by omega
            rw [List.take_of_length_le (by rw [hl.out]; exact Nat.le_refl _)] at hTr
            have hT9 := hTr.mono hb02.out.size
            generalize ls.map (fun x => BB ++ x) = RL at *
            obtain ⟨A9, c9, c0, hO⟩ := hT9.cell0
            have hbl := hT9.lt
            have hbe := Lib.hid (hb02.out.step hbw)
            replace hO := Lib.hid hO
            clear hTr hT9
            go_wp2
            go_ret2
            exact ⟨A9, RL.length, c9, by rw [hres.out]; rfl, by rw [hlen.out]; omega, by rw [hres.out]; exact hO.out, hbe.out⟩
theorem box10_impl (A : Option Addr) (n m : Nat) (ls : List ByteArray) (w : World) (h : Strs w A n ls) (hn : n ≤ 1048576) (hg : ∀ x ∈ ls, x.size ≤ maxLen) :
    Calls Try.prog 11 #[.slice A n n] w (TOut (boR ls) w) := box10_implC A n n ls w h hn hg
theorem box10_spec (A : Option Addr) (n m : Nat) (ls : List ByteArray) (w : World) (h : Strs w A n ls) (hn : n ≤ 1048576) (hg : ∀ x ∈ ls, x.size ≤ maxLen) :
    Calls Try.prog 9 #[.slice A n n] w (TOut (boR ls) w) := box10_specC A n n ls w h hn hg
theorem cb10_impl (A : Option Addr) (n m : Nat) (ls : List ByteArray) (wd : Int) (w : World) (h : Strs w A n ls) (hn : n ≤ 1048576) (hg : ∀ x ∈ ls, x.size ≤ maxLen) (hw : (Lit.int .i64 wd).wf = true) :
    Calls Try.prog 16 #[.slice A n n, .int .i64 wd] w (TOut (cbR ls wd) w) := cb10_implC A n n ls wd w h hn hg hw
theorem cb10_spec (A : Option Addr) (n m : Nat) (ls : List ByteArray) (wd : Int) (w : World) (h : Strs w A n ls) (hn : n ≤ 1048576) (hg : ∀ x ∈ ls, x.size ≤ maxLen) (hw : (Lit.int .i64 wd).wf = true) :
    Calls Try.prog 15 #[.slice A n n, .int .i64 wd] w (TOut (cbR ls wd) w) := cb10_specC A n n ls wd w h hn hg
end Go.Proofs.Ytalmpiffjghhkaa
