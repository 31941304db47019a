/- Tables: the model's functions: whether rows are one, and the widths of its columns. -/
import Derived.Test.YtmgoidngecimbaaTbl0
import Derived.Test.YtmgoidngecimbaaSssO
import Derived.StillTailTactics
namespace Go.Proofs.Ytmgoidngecimbaa
open Go.RowKit Go.ChangeShapes Go.WideShapes Go.Deep
set_option linter.unusedVariables false
set_option linter.unusedSimpArgs false

theorem getD_of8 {α : Type} {l : List α} {i : Nat} {x d : α} (h : l[i]? = some x) : l.getD i d = x := by simp [List.getD, h]
theorem OInts.put8 {w : World} {base g n i : Nat} {ps : List Int} (x : Int) (h : OInts w base (some ⟨g, 0, none⟩) n ps) (hi : i < n) : OInts (w.setCell ⟨g, i, none⟩ (.int .i64 x)) base (some ⟨g, 0, none⟩) n (ps.set i x) := by
  rcases h with ⟨hl, ⟨h0, _⟩ | ⟨g', m, f, h1, hb, hr, hm, hf⟩⟩
  · cases h0
  · cases h1
    refine ⟨by simp [hl], .inr ⟨g, m, _, rfl, hb, hr.set i _, hm, fun j y hy q u hu => ?_⟩⟩
    have hj : j < n := by have := (List.getElem?_eq_some_iff.1 hy).1; simpa [hl] using this
    match q, hu with
    | 0, hu =>
      simp [intC] at hu
      subst hu
      refine ⟨by omega, ?_⟩
      by_cases hij : i = j
      · subst hij
        rw [List.getElem?_set_self (by omega)] at hy
        cases hy
        simp
      · rw [List.getElem?_set_ne hij] at hy
        have := (hf j y hy 0 _ rfl).2
        simp only [Nat.mul_one, Nat.add_zero] at this ⊢
        rw [if_neg (fun h => hij h.symm)]
        exact this
    | q + 1, hu => simp [intC] at hu
theorem OInts.parts8 {w : World} {base g n i : Nat} {ps : List Int} (h : OInts w base (some ⟨g, 0, none⟩) n ps) (hi : i < n) : w.cell? ⟨g, i, none⟩ = some (.int .i64 (ps.getD i 0)) ∧ w.frozen? ⟨g, i, none⟩ = false ∧ g < w.heap.size ∧ base ≤ g := by
  rcases h with ⟨hl, ⟨h0, _⟩ | ⟨g', m, f, h1, hb, hr, hm, hf⟩⟩
  · cases h0
  · cases h1
    have hx : ps[i]? = some ps[i] := List.getElem?_eq_getElem (by omega)
    obtain ⟨h2, h3⟩ := hf i _ hx 0 _ rfl
    rw [Nat.mul_one, Nat.add_zero] at h2 h3
    have h4 := hr.cell (i := i) h2
    rw [h3] at h4
    exact ⟨by rw [getD_of8 hx]; exact h4, hr.frozen i, hr.lt, hb⟩
theorem OInts.zeros8 (w : World) (n : Nat) : OInts (w.alloc (.cells (madeCells #[.int .i64 0] n) 2)) w.heap.size (some ⟨w.heap.size, 0, none⟩) n (List.replicate n 0) := by
  have hr := World.rowIs_made w (.int .i64 0) n 2
  refine ⟨by simp, .inr ⟨w.heap.size, n, _, rfl, Nat.le_refl _, hr, by omega, fun i x hx j u hu => ?_⟩⟩
  obtain ⟨h1, h2⟩ := List.getElem?_eq_some_iff.1 hx
  rw [List.getElem_replicate] at h2
  subst h2
  simp at h1
  match j, hu with
  | 0, hu => cases hu; exact ⟨by omega, rfl⟩
  | j + 1, hu => simp [intC] at hu


theorem max8_spec {a b v : Int} (hv : max a b = v) (w : World) : Calls Try.prog 57 #[.int .i64 a, .int .i64 b] w fun e w' => e = .returned (.int .i64 v) ∧ w = w' := by
  by_cases h : b < a
  · obtain rfl : v = a := by omega
    clear hv
    go_enter Try.func57, Try.ntmps57
    go_wp2
    go_ret
    exact ⟨rfl, rfl⟩
  · obtain rfl : v = b := by omega
    clear hv
    go_enter Try.func57, Try.ntmps57
    go_wp2
    go_ret
    exact ⟨rfl, rfl⟩
theorem rowSpec_of {m : Nat} {r : List ByteArray} : rowSpecB m r = (decide (r.length = m) && (inR (r.length : Int) 1 12 && r.all cellB)) := by rw [rowSpecB, Bool.and_assoc]
set_option maxRecDepth 100000 in
set_option maxHeartbeats 3200000 in
theorem rows8_spec (A : Option Addr) (n c : Nat) (rows : List (List ByteArray)) {v : Bool} (hv : tableB rows = v) (w : World) (h : StrSS w A n rows) (hn : n ≤ 1048576) (hg : ∀ r ∈ rows, ∀ s ∈ r, s.size ≤ maxLen) :
    Calls Try.prog 35 #[.slice A n c] w fun e w' => e = .returned (.bool v) ∧ Below w.heap.size w w' := by
  have hl := Lib.hid h.len
  have hres : Hid (v = (rows.all (rowSpecB (colsN rows)) && inR (n : Int) 1 40)) := Lib.hid (by rw [← hv, tableB, hl.out])
  have hg0 := Lib.hid hg
  have hcol := Lib.hid (fun r (hr : rows[0]? = some r) => colsN_at hr)
  clear hv hg
  go_enter Try.func35, Try.ntmps35
  go_wp2
  go_loopw [3, 4] (fun i kk wr => ∃ k : Nat, k ≤ n ∧ i = .int .i64 k ∧ Below w.heap.size w wr ∧ rows.all (rowSpecB (colsN rows)) = (rows.drop k).all (rowSpecB (colsN rows))) (fun i _ _ => n - (intOf i).toNat)
  case atStart => exact ⟨0, by omega, rfl, Below.refl _ _, rfl⟩
  case round =>
    obtain ⟨k, hk, rfl, hbw, he⟩ := hrel
    replace he := Lib.hid he
    by_cases hlt : k < n
    · obtain ⟨b, off, B, m, cc, r, hA, hb, hx, c0, hI, hm⟩ := sss_at (h.below hbw) hlt
      obtain ⟨b', off', B0, m0, cc0, r0, hA', hb', hx0, d0, hI0, hm0⟩ := sss_at (k := 0) (h.below hbw) (by omega)
      rw [hA] at hA'
      cases hA'
      subst hA
      rw [Nat.add_zero] at d0
      unfold maxLen at hm hm0
      have hcr := hcol.out r0 hx0.out
      rw [hI0.1] at hcr
      have hst := Lib.hid (all8_drop (p := rowSpecB (colsN rows)) hx.out)
      have hrs : rowSpecB (colsN rows) r = (decide (m = m0) && (inR (m : Int) 1 12 && r.all cellB)) := by rw [rowSpec_of, hI.1, hcr]
      have hgr := Lib.hid (hg0.out r (List.mem_of_getElem? hx.out))
      have hk0 : (0 : Int) ≤ (k : Int) := Int.natCast_nonneg _
      have hk1 : (k : Int) < (n : Int) := by omega
      have hn1 : (0 : Int) < (n : Int) := by omega
      by_cases hmm : m = m0
      · subst hmm
        have hc0 := Lib.hid (fun W => in8_spec (n := (m : Int)) (lo := 1) (hi := 12) rfl W)
        cases h1 : inR (m : Int) 1 12 with
        | false =>
          have hr : Hid (v = false) := Lib.hid (by rw [hres.out, he.out, hst.out, hrs, h1]; simp)
          have hc := Lib.hid (fun W => in8_spec h1 W)
          clear h1 hrs hc0
          go_wp2_with fail
          go_quiet ((go_at_call 36; refine quiet_l (hc.out _)))
          go_wp2
          go_ret
          exact ⟨ret_bo hr.out.symm, below_drewN hbw _⟩
        | true =>
          have hc := Lib.hid (fun W => in8_spec h1 W)
          have hrs2 : Hid (rowSpecB (colsN rows) r = r.all cellB) := Lib.hid (by rw [hrs, h1]; simp)
          clear h1 hrs hc0
          have hIr := hI
          go_wp2_with fail
          go_quiet ((go_at_call 36; refine quiet_l (hc.out _)))
          go_wp2
          go_loopw [4] (fun kk wi => ∃ j : Nat, j ≤ m ∧ kk = .int .i64 j ∧ Below wr.heap.size wr wi ∧ r.all cellB = (r.drop j).all cellB) (fun kk _ => m - (intOf kk).toNat)
          case atStart => exact ⟨0, by omega, rfl, below_drewN (Below.refl _ _) _, rfl⟩
          case round =>
            obtain ⟨j, hj, rfl, hbi, he2⟩ := hrel
            replace he2 := Lib.hid he2
            have c1 := (hbi.cell (p := ⟨b, off + k, none⟩) hb).trans c0
            by_cases hlt2 : j < m
            · obtain ⟨bs, offs, s, rfl, hbs, hxs, e0⟩ := str_at (hIr.below hbi) hlt2
              have hst2 := Lib.hid (all8_drop (p := cellB) hxs.out)
              have hj0 : (0 : Int) ≤ (j : Int) := Int.natCast_nonneg _
              have hj1 : (j : Int) < (m : Int) := by omega
              have hsz := hgr.out s (List.mem_of_getElem? hxs.out)
              cases h3 : cellB s with
              | false =>
                have hr : Hid (v = false) := Lib.hid (by rw [hres.out, he.out, hst.out, hrs2.out, he2.out, hst2.out, h3]; rfl)
                have ht := Lib.hid (fun W => text_spec s 30 false h3 W hsz)
                clear h3
                go_wp2_with fail
                refine (ht.out _).mono ?_
                rintro e w2 ⟨rfl, rfl⟩
                go_wp2
                go_ret
                exact ⟨ret_bo hr.out.symm, hbw.step hbi⟩
              | true =>
                have hnx : Hid (r.all cellB = (r.drop (j + 1)).all cellB) := Lib.hid (by rw [he2.out, hst2.out, h3]; rfl)
                have ht := Lib.hid (fun W => text_spec s 30 true h3 W hsz)
                clear h3
                go_wp2_with fail
                refine (ht.out _).mono ?_
                rintro e w2 ⟨rfl, rfl⟩
                go_wp2
                go_roundw
                case rel => exact ⟨j + 1, by omega, by go_num, hbi, hnx.out⟩
                case measure => simp [intOf]; omega
            · obtain rfl : j = m := by omega
              have hnx : Hid (rows.all (rowSpecB (colsN rows)) = (rows.drop (k + 1)).all (rowSpecB (colsN rows))) := Lib.hid (by rw [he.out, hst.out, hrs2.out, he2.out, all8_end (by rw [hIr.1]; omega)]; rfl)
              go_wp2
              go_roundw
              case rel => exact ⟨k + 1, by omega, by go_num, hbw.step hbi, hnx.out⟩
              case measure => simp [intOf]; omega
      · have hr : Hid (v = false) := Lib.hid (by rw [hres.out, he.out, hst.out, hrs, decide_eq_false hmm]; simp)
        have g0 : ((m : Int) == (m0 : Int)) = false := beq_eq_false_iff_ne.2 (by omega)
        have g0' : (m == m0) = false := beq_eq_false_iff_ne.2 hmm
        have hn2 : 0 < n := by omega
        have g2 : ((m : Int) != (m0 : Int)) = true := by rw [bne, g0]; rfl
        have g2' : (m != m0) = true := by rw [bne, g0']; rfl
        clear hrs hcr hmm
        go_wp2_with fail
        go_quiet (fail)
        go_wp2
        go_ret
        exact ⟨ret_bo hr.out.symm, below_drewN hbw _⟩
    · obtain rfl : k = n := by omega
      have hr : Hid (v = inR (k : Int) 1 40) := Lib.hid (by rw [hres.out, he.out, all8_end (by rw [hl.out]; omega)]; rfl)
      have hin := Lib.hid (fun W => in8_spec (n := (k : Int)) (lo := 1) (hi := 40) rfl W)
      generalize inR (k : Int) 1 40 = u at *
      go_wp2_with fail
      refine (hin.out _).mono ?_
      rintro e w' ⟨rfl, rfl⟩
      go_wp2
      go_ret
      exact ⟨ret_bo hr.out.symm, hbw⟩

set_option maxRecDepth 100000 in
set_option maxHeartbeats 3200000 in
theorem wid8_spec (A : Option Addr) (n c : Nat) (rows : List (List ByteArray)) (w : World) (h : StrSS w A n rows) (htab : tableB rows = true) {m : Nat} (hm0 : colsN rows = m) :
    Calls Try.prog 37 #[.slice A n c] w fun e w' => ∃ g, e = .returned (.slice (some ⟨g, 0, none⟩) m m) ∧ OInts w' w.heap.size (some ⟨g, 0, none⟩) m (widL m rows) ∧ Below w.heap.size w w' := by
  obtain ⟨n1, n40, m1, m12, hrows⟩ := tableB_ok htab
  rw [hm0] at m1 m12 hrows
  have hl := Lib.hid h.len
  rw [hl.out] at n1 n40
  have hr0 := Lib.hid hrows
  have hcol := Lib.hid (fun r (hr : rows[0]? = some r) => (colsN_at hr).symm.trans hm0)
  obtain ⟨i0, hi, hz0, hz1, hz2⟩ := info_parts Try.infoI64
  have hmk := fun W => run_make_many (P := Try.prog) 30 2 i0 _ Try.underlying30 hi hz0 .i64 .i64 m (by rw [hz2]; omega) (by omega) W
  rw [hz1] at hmk
  obtain ⟨b', off', B0, mm, cc0, r0, hA', hb', hx0, d0, hI0, hmm0⟩ := sss_at (k := 0) h (by omega)
  have hcr := hcol.out r0 hx0.out
  rw [hI0.1] at hcr
  subst hcr
  subst hA'
  rw [Nat.add_zero] at d0
  have hn1 : (0 : Int) < (n : Int) := by omega
  clear htab hrows
  go_enter Try.func37, Try.ntmps37
  go_wp2
  have hO0 := Lib.hid (OInts.zeros8 w mm)
  have hmb := Lib.hid (below_a1 w (.cells (madeCells #[.int .i64 0] mm) 2))
  go_loopw [4, 5] (fun i kk wr => ∃ k : Nat, k ≤ n ∧ i = .int .i64 k ∧ Below w.heap.size w wr ∧ OInts wr w.heap.size (some ⟨w.heap.size, 0, none⟩) mm ((rows.take k).foldl wstep (List.replicate mm 0))) (fun i _ _ => n - (intOf i).toNat)
  case atStart => exact ⟨0, by omega, rfl, by simpa using hmb.out, by simpa using hO0.out⟩
  case round =>
    obtain ⟨k, hk, rfl, hbw, hO⟩ := hrel
    by_cases hlt : k < n
    · obtain ⟨b, off, B, m, cc, r, hA, hb, hx, c0, hI, hm⟩ := sss_at (h.below hbw) hlt
      cases hA
      obtain ⟨hrl, hrs⟩ := hr0.out r (List.mem_of_getElem? hx.out)
      rw [hI.1] at hrl
      subst hrl
      have hrl := Lib.hid hI.1
      have hacc := Lib.hid hO.1
      have hnx : Hid ((rows.take (k + 1)).foldl wstep (List.replicate m 0) = wstep ((rows.take k).foldl wstep (List.replicate m 0)) r) := Lib.hid (by rw [take8 hx.out, List.foldl_append]; rfl)
      have hrsz := Lib.hid hrs
      generalize hac : (rows.take k).foldl wstep (List.replicate m 0) = acc at *
      replace hac := Lib.hid hac
      have hO0 := Lib.hid hO
      have hwl := Lib.hid (wstep_len (acc := acc) (r := r) (by rw [hrl.out, hacc.out]))
      have hacr : Hid (∀ x ∈ acc, 0 ≤ x ∧ x ≤ 30) := Lib.hid fun x hx => by
        obtain ⟨i, hi2, rfl⟩ := List.getElem_of_mem hx
        have h1 := wid_at (m := m) i (by rw [← hacc.out]; exact hi2) (rows := rows.take k) (acc := List.replicate m 0) (by simp) (fun y hy => (hr0.out y (List.mem_of_mem_take hy)).1) 0 (by rw [List.getElem?_replicate, if_pos (by rw [← hacc.out]; exact hi2)])
        rw [hac.out, List.getElem?_eq_getElem hi2] at h1
        rw [Option.some.inj h1]
        exact grL_range _ i 0 (fun y hy => (hr0.out y (List.mem_of_mem_take hy)).2) (by omega) (by omega)
      have hk0 : (0 : Int) ≤ (k : Int) := Int.natCast_nonneg _
      have hk1 : (k : Int) < (n : Int) := by omega
      clear hO hrs
      go_wp2
      go_loopw [5] (fun kk wi => ∃ j : Nat, j ≤ m ∧ kk = .int .i64 j ∧ Below w.heap.size w wi ∧ OInts wi w.heap.size (some ⟨w.heap.size, 0, none⟩) m ((wstep acc r).take j ++ acc.drop j)) (fun kk _ => m - (intOf kk).toNat)
      case atStart => exact ⟨0, by omega, rfl, hbw, by simpa using hO0.out⟩
      case round =>
        rename World => wi
        obtain ⟨j, hj, rfl, hbi, hO⟩ := hrel
        obtain ⟨b9, off9, B9, m9, cc9, r9, e9, hb9, hx9, c1, hI9, hm9⟩ := sss_at (h.below hbi) hlt
        cases e9
        obtain rfl : r9 = r := by have h1 := hx9.out; have h2 := hx.out; rw [h2] at h1; exact (Option.some.inj h1).symm
        obtain rfl : m9 = m := by have h1 := hI9.1; have h2 := hrl.out; omega
        by_cases hlt2 : j < m9
        · obtain ⟨bs, offs, s, rfl, hbs, hxs, e0⟩ := str_at hI9 hlt2
          obtain ⟨p0, p1, p2, p3⟩ := hO.parts8 hlt2
          have hag : acc[j]? = some (acc[j]'(by rw [hacc.out]; exact hlt2)) := List.getElem?_eq_getElem _
          generalize acc[j]'(by rw [hacc.out]; exact hlt2) = a at *
          have hval : ((wstep acc r9).take j ++ acc.drop j).getD j 0 = a := getD_of8 ((wmid (hwl.out) (by rw [hacc.out]; exact hlt2)).trans hag)
          rw [hval] at p0
          obtain ⟨ha0, ha1⟩ := hacr.out a (List.mem_of_getElem? hag)
          have hs30 := hrsz.out s (List.mem_of_getElem? hxs.out)
          obtain ⟨z, hz⟩ : ∃ z : Int, max a (s.size : Int) = z := ⟨_, rfl⟩
          have hmx := Lib.hid (fun W => max8_spec hz W)
          have hnj := Lib.hid (wset hwl.out ((wstep_at hag hxs.out).trans (by rw [hz])))
          have hput := Lib.hid (hO.put8 z hlt2)
          rw [hnj.out] at hput
          have hbi2 := Lib.hid (hbi.setCell (p := ⟨w.heap.size, j, none⟩) (Nat.le_refl _) (.int .i64 z))
          have hj0 : (0 : Int) ≤ (j : Int) := Int.natCast_nonneg _
          have hj1 : (j : Int) < (m9 : Int) := by omega
          clear hO hval hag ha0 ha1 hs30 hz p3
          go_wp2_with fail
          refine wp_region_still_tail 16 (by kernel_rfl) (by kernel_rfl) ?_
          simp only [List.take_succ_cons, List.take_zero, List.drop_succ_cons, List.drop_zero]
          repeat still_step
          still_call ((hmx.out _).mono (fun _ _ h => ⟨h.1, h.2.symm⟩))
          repeat still_step
          try refine wpStill_nil ?_
          change wpList _ _ _ _ _ wi.drew
          have q0 : wi.drew.cell? ⟨w.heap.size, j, none⟩ = some (.int .i64 a) := p0
          have q1 : wi.drew.frozen? ⟨w.heap.size, j, none⟩ = false := p1
          have hput2 : Hid (OInts (wi.drew.setCell ⟨w.heap.size, j, none⟩ (.int .i64 z)) w.heap.size (some ⟨w.heap.size, 0, none⟩) m9 ((wstep acc r9).take (j + 1) ++ acc.drop (j + 1))) := hput
          have hbi3 : Hid (Below w.heap.size w (wi.drew.setCell ⟨w.heap.size, j, none⟩ (.int .i64 z))) := Lib.hid ((hbi.drew).setCell (p := ⟨w.heap.size, j, none⟩) (Nat.le_refl _) (.int .i64 z))
          generalize wi.drew = w5 at *
          go_wp2
          go_roundw
          case rel => exact ⟨j + 1, by omega, by go_num, hbi3.out, hput2.out⟩
          case measure => simp [intOf]; omega
        · obtain rfl : j = m9 := by omega
          have hfin : Hid (OInts wi w.heap.size (some ⟨w.heap.size, 0, none⟩) j ((rows.take (k + 1)).foldl wstep (List.replicate j 0))) := Lib.hid (by
            rw [hnx.out]
            rw [List.take_of_length_le (by rw [hwl.out, hacc.out]; omega), List.drop_of_length_le (by rw [hacc.out]; omega), List.append_nil] at hO
            exact hO)
          clear hO
          go_wp2
          go_roundw
          case rel => exact ⟨k + 1, by omega, by go_num, hbi, hfin.out⟩
          case measure => simp [intOf]; omega
    · obtain rfl : k = n := by omega
      rw [List.take_of_length_le (by rw [hl.out]; omega)] at hO
      have hO2 := Lib.hid hO
      clear hO
      go_wp2
      go_ret
      exact ⟨_, rfl, hO2.out, hbw⟩
theorem cwR_spec (A : Option Addr) (n c : Nat) (rows : List (List ByteArray)) (w : World) (h : StrSS w A n rows) (hn : n ≤ 1048576) (hg : ∀ r ∈ rows, sssGood r) :
    Calls Try.prog 9 #[.slice A n c] w (IOut (colR rows) w) := by
  generalize hr : colR rows = r
  replace hr := Lib.hid hr.symm
  cases h1 : tableB rows with
  | false =>
    have hbad : Hid (r = ([], 1)) := Lib.hid (by rw [hr.out]; simp [colR, h1])
    have hc1 := Lib.hid (rows8_spec A n c rows h1 w h hn hg)
    clear h1 hr h hg
    go_enter Try.func9, Try.ntmps9
    go_wp2_with fail
    refine hc1.out.mono ?_
    rintro e w1 ⟨rfl, hb1⟩
    go_wp2
    go_ret2
    exact IOut.bad hbad.out hb1
  | true =>
    have hgood : Hid (r = (widL (colsN rows) rows, 0)) := Lib.hid (by rw [hr.out, colR, if_pos h1])
    have hcode : Hid (r.2 = 0) := Lib.hid (by rw [hgood.out])
    have hc1 := Lib.hid (rows8_spec A n c rows h1 w h hn hg)
    have hc2 := Lib.hid (fun W (hW : StrSS W A n rows) => wid8_spec A n c rows W hW h1 rfl)
    have hm12 := (tableB_ok h1).2.2.2.1
    clear h1 hr hg
    go_enter Try.func9, Try.ntmps9
    go_wp2_with fail
    refine hc1.out.mono ?_
    rintro e w1 ⟨rfl, hb1⟩
    have hS := h.below hb1
    clear h hc1
    go_wp2_with fail
    refine (hc2.out _ hS).mono ?_
    rintro e w2 ⟨g, rfl, hO, hb2⟩
    have hO2 := Lib.hid hO
    clear hO
    go_wp2
    go_ret2
    exact ⟨_, colsN rows, _, by rw [hcode.out]; rfl, by omega, by rw [hgood.out]; exact hO2.out.mono hb1.size, hb1.step hb2⟩
end Go.Proofs.Ytmgoidngecimbaa
