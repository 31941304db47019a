/- Lines of words by breaks: the program's lines, and the badness of both. -/
import Derived.Test.YtcaojaaooadeaaaLn6
import Derived.Test.YtcaojaaooadeaaaLn5
import Derived.Test.YtcaojaaooadeaaaCat8
import Derived.Test.YtcaojaaooadeaaaTab4
namespace Go.Proofs.Ytcaojaaooadeaaa
open Go.RowKit Go.ChangeShapes Go.WideShapes Go.Deep
set_option linter.unusedVariables false
set_option linter.unusedSimpArgs false

theorem prs_at : ∀ (l : List Int) (a k : Nat) (x : Int), l[k]? = some x → (prsL a l)[k]? = some (endN a (l.take k), x.toNat)
  | [], _, _, _, h => by simp at h
  | e :: r, a, 0, x, h => by simp at h; subst h; simp [prsL, endN]
  | e :: r, a, k + 1, x, h => by
    have := prs_at r e.toNat k x (by simpa using h)
    simpa [prsL, endN] using this
theorem bdR_bad {ws : List ByteArray} {wd : Int} {bs : List Int} {q : Int} (h : codeL ws wd bs = q) (h0 : q ≠ 0) : bdR ws wd bs = (0, q) := by rw [bdR, h, if_neg h0]
theorem bdR_good {ws : List ByteArray} {wd : Int} {bs : List Int} (h : codeL ws wd bs = 0) : bdR ws wd bs = (badN ws wd (pairsW ws.length bs) ((pairsW ws.length bs).length - 1), 0) := by rw [bdR, h, if_pos rfl]
set_option maxRecDepth 100000 in
set_option maxHeartbeats 3200000 in
theorem bd9_specC (A : Option Addr) (n c : Nat) (ws : List ByteArray) (wd : Int) (B : Option Addr) (k0 c0 : Nat) (bs : List Int) (w : World) (h : Strs w A n ws) (hB : Ints w B k0 bs) (hn : n ≤ 1048576) (hc : n ≤ c) (hk0 : k0 ≤ 1048576) (hg : ∀ x ∈ ws, x.size ≤ maxLen) {ra rb : Int} (hv : bdR ws wd bs = (ra, rb)) :
    Calls Try.prog 22 #[.slice A n c, .int .i64 wd, .slice B k0 c0] w fun e w' => e = .returned (.tuple #[.int .i64 ra, .int .i64 rb]) ∧ Below w.heap.size w w' := by
  have hl := Lib.hid h.1
  replace hv := Lib.hid hv
  obtain ⟨q, hq⟩ : ∃ q, codeL ws wd bs = q := ⟨_, rfl⟩
  have hc1 := Lib.hid (code9_spec A n c ws wd B k0 c0 bs w h hB hn hc hk0 hg hq)
  by_cases h0 : q = 0
  · subst h0
    obtain ⟨hok, hri, hfi⟩ := codeL_ok hq
    obtain ⟨n40, w1, w80, hws⟩ := okW_ok hok
    have hgood := bdR_good hq
    rw [hl.out] at n40 hri hfi hgood
    obtain ⟨hpl, hpo, hp0, hbl, hpl1⟩ := pairs_ok hri
    obtain ⟨b, off, hA⟩ : ∃ b off, 0 < n → A = some ⟨b, off, none⟩ := by
      by_cases h0 : 0 < n
      · obtain ⟨b, off, e, _⟩ := h.2 h0; exact ⟨b, off, fun _ => e⟩
      · exact ⟨0, 0, fun h => absurd h h0⟩
    have hc3 := Lib.hid (fun W hW => lines9_spec A n c b off hA B k0 c0 bs hri (by omega) hc W hW)
    obtain ⟨ps, hps⟩ : ∃ ps, pairsW n bs = ps := ⟨_, rfl⟩
    obtain ⟨m, hm⟩ : ∃ m, ps.length = m := ⟨_, rfl⟩
    rw [hps] at hc3 hpl hpo hfi hgood
    rw [hm] at hgood hpl
    obtain ⟨rfl, rfl⟩ : ra = badN ws wd ps (m - 1) ∧ rb = 0 := by have := hv.out; rw [hgood] at this; simpa [eq_comm] using this
    have hpo0 := Lib.hid hpo
    have hws0 := Lib.hid hws
    have hrg := Lib.hid (badN_range w80 hfi (by rw [hm]; omega))
    have hnx0 := Lib.hid (fun k p hp => badN_next (ws := ws) (wd := wd) (ps := ps) (k := k) (p := p) hp)
    have hfi0 := Lib.hid hfi
    clear hq hok hri hfi hg hws hpo hp0 hpl1 hv hgood hps
    go_enter Try.func22, Try.ntmps22
    go_wp2_with fail
    refine hc1.out.mono ?_
    rintro e w1 ⟨rfl, hb1⟩
    go_wp2_with fail
    refine (hc3.out _ (hB.below hb1)).mono ?_
    rintro e w3 ⟨v, rfl, hrow, hb3⟩
    rw [hm] at hrow
    obtain ⟨A', c', rfl, hO⟩ := owns_v9 hm hrow
    have hV := Lib.hid hO.srow
    have hS := (h.below hb1).below hb3
    have hb13 := hb1.step hb3
    replace hm := Lib.hid hm
    clear hrow hO hc1 hc3 hb1 hb3 h hB
    go_wp2
    go_loopw [10, 11, 12] (fun s i x wr => ∃ k : Nat, k ≤ m - 1 ∧ i = .int .i64 (k : Int) ∧ s = .int .i64 (badN ws wd ps k) ∧ w3 = wr) (fun _ i _ _ => m - (intOf i).toNat)
    case atStart => exact ⟨0, by omega, rfl, rfl, rfl⟩
    case round =>
      obtain ⟨k, hk, rfl, rfl, rfl⟩ := hrel
      obtain ⟨r0, r1⟩ := hrg.out k
      have hwk : IntKind.i64.wrap ((k : Int) + 1) = (k : Int) + 1 := IntWalk.i64_in _ (by omega)
      by_cases hlt : k + 1 < m
      · obtain ⟨g, o, p, rfl, hgl, hx, c1⟩ := view_at hV.out (show k < m by omega)
        obtain ⟨p1, p2⟩ := hpo0.out p (List.mem_of_getElem? hx.out)
        have hA := hA (by omega)
        subst hA
        have hlo := Lib.hid (long9_spec _ (p.2 - p.1) (c - p.1) (lineW ws p) (by omega) (fun x hx => by have := (hws0.out x (lineW_mem hx)).2.1; omega) rfl w3 (view_strs hS p1 p2))
        have hnx := Lib.hid (hnx0.out k p hx.out)
        have hft : (longN (lineW ws p) : Int) ≤ wd := by
          have := List.all_eq_true.1 hfi0.out p (List.mem_of_getElem? hx.out)
          simpa [fitB] using this
        have hsq : Hid (sqW ws wd p = (wd - (longN (lineW ws p) : Int)) * (wd - (longN (lineW ws p) : Int))) := Lib.hid rfl
        generalize longN (lineW ws p) = LN at *
        obtain ⟨X, hX⟩ : ∃ X, wd - (LN : Int) = X := ⟨_, rfl⟩
        have hw1 : IntKind.i64.wrap (wd - (LN : Int)) = X := by rw [hX]; exact IntWalk.i64_in _ (by omega)
        rw [hX] at hsq
        obtain ⟨s0, s1⟩ := sq_range (x := X) (by omega) (by omega)
        replace hX := Lib.hid hX
        have hw2 : IntKind.i64.wrap (X * X) = X * X := IntWalk.i64_in _ (by omega)
        have hw3 : IntKind.i64.wrap (badN ws wd ps k + X * X) = badN ws wd ps k + X * X := IntWalk.i64_in _ (by omega)
        have hlt2 : (k : Int) + 1 < (m : Int) := by omega
        generalize badN ws wd ps k = Y at *
        clear r0 r1 s0 s1 hft
        go_wp2_with fail
        refine hlo.out.mono ?_
        rintro e w' ⟨rfl, rfl⟩
        go_wp2
        go_roundw
        case rel => exact ⟨k + 1, by omega, by go_num, by rw [hnx.out, hsq.out], by trivial⟩
        case measure => simp [intOf]; omega
      · have hkm : k = m - 1 := by omega
        have hlt2 : ¬ (k : Int) + 1 < (m : Int) := by omega
        replace hkm := Lib.hid hkm
        go_wp2
        go_ret2
        exact ⟨by rw [← hkm.out]; rfl, hb13⟩
  · have hbad := bdR_bad hq h0
    obtain ⟨rfl, rfl⟩ : ra = 0 ∧ rb = q := by have := hv.out; rw [hbad] at this; simpa [eq_comm] using this
    have g0 : (rb == 0) = false := beq_eq_false_iff_ne.2 h0
    replace h0 := Lib.hid h0
    clear hq hv hbad h hB hg
    go_enter Try.func22, Try.ntmps22
    go_wp2_with fail
    refine hc1.out.mono ?_
    rintro e w1 ⟨rfl, hb1⟩
    go_wp2
    go_ret2
    exact ⟨rfl, hb1⟩
theorem bd9_spec (A : Option Addr) (n m : Nat) (ws : List ByteArray) (wd : Int) (B : Option Addr) (k0 c0 : Nat) (bs : List Int) (w : World) (h : Strs w A n ws) (hn : n ≤ 1048576) (hg : ∀ x ∈ ws, strGood x) (hw : (Lit.int .i64 wd).wf = true) (hB : Ints w B k0 bs) (hk0 : k0 ≤ 1048576) (hbg : ∀ x ∈ bs, intGood x) :
    Calls Try.prog 22 #[.slice A n n, .int .i64 wd, .slice B k0 c0] w fun e w' => e = .returned (.tuple #[.int .i64 (bdR ws wd bs).1, .int .i64 (bdR ws wd bs).2]) ∧ Below w.heap.size w w' := bd9_specC A n n ws wd B k0 c0 bs w h hB hn (Nat.le_refl _) hk0 hg rfl

theorem own_mono9 {w : World} {base base' : Nat} {E : TypeId} {size n : Nat} {v : Value} {xs : List Value} (h : w.ownsRow base E size v n xs) (hb : base' ≤ base) : w.ownsRow base' E size v n xs :=
  ⟨h.1, h.2.elim .inl (fun ⟨g, cap, cur, h1, h2, h3⟩ => .inr ⟨g, cap, cur, h1, Nat.le_trans hb h2, h3⟩)⟩
/-- What the program's lines are. -/
def LbOut (b off c : Nat) (ps : List (Nat × Nat)) (q : Int) (w : World) (e : Ending) (w' : World) : Prop :=
  Below w.heap.size w w' ∧ ((q = 0 ∧ ∃ v, e = .returned (.tuple #[v, .int .i64 0]) ∧ w'.ownsRow w.heap.size 22 1 v ps.length (ps.flatMap (viewC b off c))) ∨ (q ≠ 0 ∧ e = .returned (.tuple #[.slice none 0 0, .int .i64 q])))
theorem LbOut.bad {b off c : Nat} {ps : List (Nat × Nat)} {q k : Int} {w w' : World} (hq : q = k) (hk : k ≠ 0) (hb : Below w.heap.size w w') : LbOut b off c ps q w (.returned (.tuple #[.slice none 0 0, .int .i64 k])) w' := by
  subst hq
  exact ⟨hb, .inr ⟨hk, rfl⟩⟩
set_option maxRecDepth 100000 in
set_option maxHeartbeats 3200000 in
theorem lb9_impl (A : Option Addr) (n c : Nat) (ws : List ByteArray) (wd : Int) (B : Option Addr) (k0 c0 : Nat) (bs : List Int) (b off : Nat) (hA : 0 < n → A = some ⟨b, off, none⟩) (w : World) (h : Strs w A n ws) (hB : Ints w B k0 bs) (hn : n ≤ 1048576) (hc : n ≤ c) (hk0 : k0 ≤ 1048576) (hg : ∀ x ∈ ws, x.size ≤ maxLen) {q : Int} (hq : codeL ws wd bs = q) :
    Calls Try.prog 47 #[.slice A n c, .int .i64 wd, .slice B k0 c0] w (LbOut b off c (pairsW n bs) q w) := by
  have hl := Lib.hid h.1
  replace hq := Lib.hid hq
  cases h1 : okW ws wd with
  | false =>
    have hr : Hid (q = 1) := Lib.hid (by rw [← hq.out, codeL_1 h1])
    have hc1 := Lib.hid (vt9_implV A n c ws wd h1 w h hn hg)
    clear h1 hq h hg hB
    go_enter Try.func47, Try.ntmps47
    go_wp2_with fail
    refine hc1.out.mono ?_
    rintro e w1 ⟨rfl, hb1⟩
    go_wp2
    go_ret2
    exact LbOut.bad hr.out (by decide) hb1
  | true =>
    have hc1 := Lib.hid (vt9_implV A n c ws wd h1 w h hn hg)
    obtain ⟨n40, w1, w80, hws⟩ := okW_ok h1
    rw [hl.out] at n40
    have hwr : IntKind.i64.wrap ((n : Int) - 1) = (n : Int) - 1 := IntWalk.i64_in _ (by omega)
    cases h2 : risesB ((n : Int) - 1) 1 bs with
    | false =>
      have hr : Hid (q = 2) := Lib.hid (by rw [← hq.out, codeL_2 h1 (by rw [hl.out]; exact h2)])
      have hc2 := Lib.hid (fun W hW => incr_impl B k0 c0 1 ((n : Int) - 1) bs h2 (by omega) (by omega) W hW hk0)
      clear h1 h2 hq h hg hws
      go_enter Try.func47, Try.ntmps47
      go_wp2_with fail
      refine hc1.out.mono ?_
      rintro e w1 ⟨rfl, hb1⟩
      go_wp2_with fail
      refine (hc2.out _ (hB.below hb1)).mono ?_
      rintro e w2 ⟨rfl, rfl⟩
      go_wp2
      go_ret2
      exact LbOut.bad hr.out (by decide) hb1
    | true =>
      have hc2 := Lib.hid (fun W hW => incr_impl B k0 c0 1 ((n : Int) - 1) bs h2 (by omega) (by omega) W hW hk0)
      have hres : Hid (q = if (pairsW n bs).all (fitB ws wd) = true then 0 else 5) := Lib.hid (by rw [← hq.out, codeL_3 h1 (by rw [hl.out]; exact h2), hl.out])
      obtain ⟨hpl, hpo, hp0, hbl, hpl1⟩ := pairs_ok h2
      by_cases hn0 : n = 0
      · have hps : pairsW n bs = [] := by rw [pairsW, if_pos hn0]
        have hr : Hid (q = 0) := Lib.hid (by rw [hres.out, hps]; rfl)
        rw [hps]
        subst hn0
        clear h1 h2 hq hg hws h hpl hpo hp0 hpl1 hps
        go_enter Try.func47, Try.ntmps47
        go_wp2_with fail
        refine hc1.out.mono ?_
        rintro e w1 ⟨rfl, hb1⟩
        go_wp2_with fail
        refine (hc2.out _ (hB.below hb1)).mono ?_
        rintro e w2 ⟨rfl, rfl⟩
        go_wp2
        go_ret2
        exact ⟨hb1, .inl ⟨hr.out, _, rfl, owns_nil8 _ _ _⟩⟩
      · have hA := hA (by omega)
        subst hA
        have hpw : Hid (pairsW n bs = prsL 0 (bs ++ [(n : Int)])) := Lib.hid (by rw [pairsW, if_neg hn0])
        have hk40 : k0 ≤ 40 := by rw [hB.1] at hbl; omega
        have hln := Lib.hid (show (pairsW n bs).length = k0 + 1 by rw [hpl1 (by omega), hB.1])
        have hpo0 := Lib.hid hpo
        have hws0 := Lib.hid hws
        have g1 : ((n : Int) == 0) = false := beq_eq_false_iff_ne.2 (by omega)
        have g2 : (n == 0) = false := beq_eq_false_iff_ne.2 hn0
        obtain ⟨i0, hi, hz0, hz1, hz2⟩ := info_parts Try.infoStrS
        replace hn0 := Lib.hid hn0
        clear h1 h2 hq hg hws hpo hp0 hpl1 hpl hbl
        go_enter Try.func47, Try.ntmps47
        go_wp2_with fail
        refine hc1.out.mono ?_
        rintro e w1 ⟨rfl, hb1⟩
        go_wp2_with fail
        refine (hc2.out _ (hB.below hb1)).mono ?_
        rintro e w2 ⟨rfl, rfl⟩
        have hB1 := hB.below hb1
        have hS1 := h.below hb1
        clear hc1 hc2 h hB
        go_wp2_with fail
        refine (concat8 (some ⟨w1.heap.size + 1, 0, none⟩) 2 2 [bs, [(n : Int)]] _ (iss2 (T := 27) (A := B) (B := some ⟨w1.heap.size, 0, none⟩) (a := k0) (b := 1) (a' := c0) (b' := 1) (by
            rw [← World.size_alloc w1 (.cells #[.int .i64 (n : Int)] 2)]; exact heap_alloc_new _ _) (hB1.below (below_a2 _ _ _)) ⟨rfl, fun _ => ⟨w1.heap.size, 0, rfl, by simp; omega, fun i x hx j u hu => by
              match i, hx with
              | 0, hx =>
                cases hx
                match j, hu with
                | 0, hu => cases hu; exact cell_on (cell_new rfl rfl) _
                | j + 1, hu => simp [intC] at hu
              | i + 1, hx => simp at hx⟩⟩ (by omega) (by omega)) (by omega) (by simp [tot]; rw [hB1.1]; omega)).mono ?_
        rintro e w3 ⟨A', n', c', rfl, hcap, hO, hb3⟩
        have hb13 := (below_a2 w1 _ _).step hb3
        have hn' : n' = k0 + 1 := by rw [← hO.1]; simp; rw [hB1.1]
        subst hn'
        have hE : Hid ([bs, [(n : Int)]].flatten = bs ++ [(n : Int)]) := Lib.hid (by simp)
        rw [hE.out] at hO
        have hI := Lib.hid hO.srow
        have hS := hS1.below hb13
        have hb03 := Lib.hid (hb1.step hb13)
        rw [hpw.out] at hres hpo0 hln
        clear hO hb3 hb13 hB1 hS1 hE hb1
        generalize bs ++ [(n : Int)] = es at *
        go_wp2
        go_loopw [8, 9, 11, 12, 33] (fun v a _ _ i wr => ∃ k : Nat, k ≤ k0 + 1 ∧ i = .int .i64 (k : Int) ∧ a = .int .i64 (endN 0 (es.take k) : Int) ∧ Below w3.heap.size w3 wr ∧ (prsL 0 es).all (fitB ws wd) = ((prsL 0 es).drop k).all (fitB ws wd) ∧ wr.ownsRow w3.heap.size 22 1 v k ((prsL 0 (es.take k)).flatMap (viewC b off c))) (fun _ _ _ _ i _ => k0 + 1 - (intOf i).toNat)
        case atStart => exact ⟨0, by omega, rfl, rfl, Below.refl _ _, rfl, owns_nil8 _ _ _⟩
        case round =>
          rename World => wr
          obtain ⟨k, hk, rfl, rfl, hbw, he, hrow⟩ := hrel
          have hwz := hbw.size
          replace he := Lib.hid he
          by_cases hlt : k < k0 + 1
          · obtain ⟨bb, bo, x, rfl, hbb, hx, c1⟩ := int_at (hI.out.below hbw) hlt
            have hbb0 : bb < w3.heap.size := by obtain ⟨b2, o2, x2, e2, hb2, _⟩ := int_at hI.out hlt; cases e2; exact hb2
            have hpx := prs_at es 0 k x hx.out
            have hst := Lib.hid (all8_drop (p := fitB ws wd) hpx)
            obtain ⟨p1, p2⟩ := hpo0.out _ (List.mem_of_getElem? hpx)
            have hsn := Lib.hid (show (prsL 0 (es.take (k + 1))).flatMap (viewC b off c) = (prsL 0 (es.take k)).flatMap (viewC b off c) ++ [.slice (some ⟨b, off + endN 0 (es.take k), none⟩) (x.toNat - endN 0 (es.take k)) (c - endN 0 (es.take k))] by rw [take8 hx.out, prs_snoc, snoc9])
            have hen := Lib.hid (show endN 0 (es.take (k + 1)) = x.toNat by rw [take8 hx.out, end_snoc])
            simp only at p1 p2
            generalize endN 0 (es.take k) = f at *
            obtain ⟨e, rfl⟩ : ∃ e : Nat, x = (e : Int) := ⟨x.toNat, by omega⟩
            rw [Int.toNat_natCast] at hsn hen p1 p2 hst
            have hfe : f ≤ e := by omega
            have hec : e ≤ c := by omega
            have hVs := view_strs (hS.below hbw) (p := (f, e)) p1 p2
            have hwa := Lib.hid (waste9_impl b (off + f) (e - f) (c - f) (lineW ws (f, e)) wd wr hVs (by omega) (by omega) (by omega) (fun x hx => by have := (hws0.out x (lineW_mem hx)).2.1; omega) (by omega) (by omega))
            have hfb : fitB ws wd (f, e) = decide ((longN (lineW ws (f, e)) : Int) ≤ wd) := rfl
            have hk01 : (0 : Int) ≤ (k : Int) := Int.natCast_nonneg _
            have hk02 : (k : Int) < ((k0 + 1 : Nat) : Int) := by omega
            have hk03 : (k : Int) < (k0 : Int) + 1 := by omega
            generalize longN (lineW ws (f, e)) = LN at *
            by_cases hfit : (LN : Int) ≤ wd
            · have hnx : Hid ((prsL 0 es).all (fitB ws wd) = ((prsL 0 es).drop (k + 1)).all (fitB ws wd)) := Lib.hid (by rw [he.out, hst.out, hfb, decide_eq_true hfit]; rfl)
              have g3 : decide (wd - (LN : Int) < 0) = false := decide_eq_false (by omega)
              have hrl0 := Lib.hid hrow
              clear hst hfb hpx hVs hrow
              go_wp2_with fail
              refine hwa.out.mono ?_
              rintro e1 w5 ⟨rfl, hb5⟩
              have hbw5 := hbw.trans (hb5.mono hwz)
              have hwz5 := hbw5.size
              have hrl := Lib.hid (owns_keep8 hrl0.out hb5)
              clear hb5 hrl0 c1 hwa
              go_wp2_with (at_builtin; refine wpList_append_own _ rfl _ _ 50 rfl w3.heap.size 22 i0 _ 1 24 Try.underlying50 hi hz0 hz1 hz2 rfl (by decide) _ _ _ rfl (hrl.out.alloc _) ⟨w5.heap.size, 0, none⟩ 1 1 [.slice (some ⟨b, off + f, none⟩) (e - f) (c - f)] rfl rfl (news8 _ _ _) (one9 _ _ _) (by unfold maxLen; omega) (by omega) (by simp; omega) ?_)
              intro vqq wqq hownqq hgrqq hnilqq
              have hgqqq := grown_trans (grown_below (below_a1 w5 _) _) hgrqq
              clear hgrqq hnilqq
              have hq : Hid (wqq.ownsRow w3.heap.size 22 1 vqq (k + 1) ((prsL 0 (es.take (k + 1))).flatMap (viewC b off c)) ∧ Below w3.heap.size w3 wqq) := Lib.hid ⟨by rw [hsn.out]; exact hownqq, hbw5.grown hgqqq hwz5 (fun j hj => owns_ge8 hrl.out hj)⟩
              clear hownqq hgqqq
              clear hrl
              go_wp2
              go_roundw
              case rel => exact ⟨k + 1, by omega, by go_num, by rw [hen.out], hq.out.2, hnx.out, hq.out.1⟩
              case measure => simp [intOf]; omega
            · have hr : Hid (q = 5) := Lib.hid (by rw [hres.out, he.out, hst.out, hfb, decide_eq_false hfit]; rfl)
              have g3 : decide (wd - (LN : Int) < 0) = true := decide_eq_true (by omega)
              clear hst hfb hpx hVs hrow
              go_wp2_with fail
              refine hwa.out.mono ?_
              rintro e1 w5 ⟨rfl, hb5⟩
              have hbw5 := hbw.trans (hb5.mono hwz)
              go_wp2
              go_ret2
              exact LbOut.bad hr.out (by decide) (hb03.out.step hbw5)
          · obtain rfl : k = k0 + 1 := by omega
            have hk02 : ¬ ((k0 + 1 : Nat) : Int) < (k0 : Int) + 1 := by omega
            have hall : es.take (k0 + 1) = es := List.take_of_length_le (by rw [hI.out.1]; omega)
            have hr : Hid (q = 0) := Lib.hid (by rw [hres.out, he.out, all8_end (by rw [hln.out]; exact Nat.le_refl _)]; rfl)
            rw [hall] at hrow
            rw [hall]
            have hrow2 := Lib.hid hrow
            clear hrow
            go_wp2
            go_ret2
            refine ⟨hb03.out.step hbw, .inl ⟨hr.out, _, rfl, ?_⟩⟩
            rw [hpw.out, hln.out]
            exact own_mono9 hrow2.out hb03.out.size
end Go.Proofs.Ytcaojaaooadeaaa
