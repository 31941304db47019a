/- Tables: the program's lines. -/
import Derived.Test.YtmgoidngecimbaaTlI0
import Derived.Test.YtmgoidngecimbaaTblI
namespace Go.Proofs.Ytmgoidngecimbaa
open Go.RowKit Go.ChangeShapes Go.WideShapes Go.Deep
set_option linter.unusedVariables false
set_option linter.unusedSimpArgs false

theorem side_at {w : World} {A : Option Addr} {n k : Nat} {xs : List UInt8} (h : SRow 1 sideC w A n xs) (hk : k < n) :
    ∃ b off x, A = some ⟨b, off, none⟩ ∧ b < w.heap.size ∧ Hid (xs[k]? = some x) ∧ w.cell? ⟨b, off + k, none⟩ = some (sideV x) := by
  obtain ⟨b, off, x, e, hb, hx, hc⟩ := h.at_ hk
  have h0 := hc 0 _ rfl
  rw [Nat.mul_one, Nat.add_zero] at h0
  exact ⟨b, off, x, e, hb, Lib.hid hx, h0⟩
theorem gD8 {α : Type} {l : List α} {i : Nat} {x d : α} (h : l[i]? = some x) : l.getD i d = x := by simp [List.getD, h]
theorem owns_s9 {w : World} {base n : Nat} {L : Value} {l : List ByteArray} (hn : l.length = n) (hn0 : 0 < n) (h : w.ownsRow base 9 1 L n (l.flatMap strC)) : ∃ g c, L = .slice (some ⟨g, 0, none⟩) n c ∧ n ≤ c ∧ g < w.heap.size ∧ ∀ (j : Nat) x, l[j]? = some x → w.cell? ⟨g, 0 + j, none⟩ = some (.string x) := by
  subst hn
  have hcap : ∀ g c, L = .slice (some ⟨g, 0, none⟩) l.length c → l.length ≤ c := fun g c hL => by
    rcases h.2 with ⟨h1, h2⟩ | ⟨g', cap, cur, hv, _, _, hc, _⟩
    · omega
    · rw [hL] at hv; cases hv; exact hc
  obtain ⟨A, c, rfl, hO⟩ := ORow.of_owns (cells := strC) (fun (x : ByteArray) => (rfl : (strC x).length = 1)) h
  have hS := hO.srow
  obtain ⟨b, off, x, rfl, hb, hx, hc⟩ := hS.at_ hn0
  have hoff : off = 0 := by
    rcases hO with ⟨_, ⟨h0, _⟩ | ⟨g, _, _, h0, _⟩⟩
    · cases h0
    · cases h0; rfl
  subst hoff
  refine ⟨b, c, rfl, hcap b c rfl, hb, fun j y hy => ?_⟩
  obtain ⟨b2, o2, e2, hb2, hc2⟩ := hS.2 hn0
  cases e2
  have := hc2 j y hy 0 _ rfl
  simpa using this
theorem meL8 (w : World) : (method 245 84 (.agg #[]) "loop.example/g01045/impl.fill").run Try.prog w = .ok (115, .agg #[]) w := by kernel_rfl
theorem meR8 (w : World) : (method 245 85 (.agg #[]) "loop.example/g01045/impl.fill").run Try.prog w = .ok (116, .agg #[]) w := by kernel_rfl
set_option maxRecDepth 100000 in
set_option maxHeartbeats 6400000 in
theorem tl_impl (A : Option Addr) (n c : Nat) (rows : List (List ByteArray)) (sides : ByteArray) (gap : Int) (w : World) (h : StrSS w A n rows) (hn : n ≤ 1048576) (hg : ∀ r ∈ rows, sssGood r) (hss : sides.size ≤ 1048576) (hgw : (Lit.int .i64 gap).wf = true) :
    Calls Try.prog 6 #[.slice A n c, .string sides, .int .i64 gap] w (TOut (tlR rows sides gap) w) := by
  generalize hr : tlR rows sides gap = r
  replace hr := Lib.hid hr.symm
  clear hgw
  have hcw := cwR_impl A n c rows w h hn hg
  cases h1 : tableB rows with
  | false =>
    have hbad : Hid (r = ([], 1)) := Lib.hid (by rw [hr.out, tlR_1 h1])
    have hc0 : colR rows = ([], 1) := by simp [colR, h1]
    rw [hc0] at hcw
    replace hcw := Lib.hid hcw
    clear h1 hr h hg hc0
    go_enter Try.func6, Try.ntmps6
    go_wp2_with fail
    refine hcw.out.mono ?_
    rintro e w1 ⟨A1, k1, c1, rfl, _, hO, hb1⟩
    clear hO
    go_wp2
    go_ret2
    exact TOut.bad hbad.out hb1
  | true =>
    obtain ⟨n1, n40, m1, m12, hrows⟩ := tableB_ok h1
    have hl := Lib.hid h.len
    rw [hl.out] at n1 n40
    obtain ⟨m, hm0⟩ : ∃ m, colsN rows = m := ⟨_, rfl⟩
    have hc0 : colR rows = (widL m rows, 0) := by rw [colR, if_pos h1, hm0]
    rw [hc0] at hcw
    replace hcw := Lib.hid hcw
    have hr2 := Lib.hid (fun hq => hr.out.trans (tlR_2 h1 hq))
    have hr3 := Lib.hid (fun hq => hr.out.trans (tlR_0 h1 hq))
    have hcol := Lib.hid (fun r (hr : rows[0]? = some r) => (colsN_at hr).symm.trans hm0)
    rw [hm0] at m1 m12 hrows hr2 hr3
    have hr0 := Lib.hid hrows
    have hwl : Hid ((widL m rows).length = m) := Lib.hid (widL_len (by simp) (fun y hy => (hr0.out y hy).1))
    clear h1 hm0 hg hrows hr hc0
    obtain ⟨i0, hi, hz0, hz1, hz2⟩ := info_parts Try.infoStr
    have hrs := Lib.hid (fun W => readSides8 sides hss W)
    go_enter Try.func6, Try.ntmps6
    go_wp2_with fail
    refine hcw.out.mono ?_
    rintro e w1 ⟨A1, k1, c1, rfl, _, hO, hb1⟩
    have hk1m : k1 = m := hO.1.symm.trans hwl.out
    subst hk1m
    have hO1 := Lib.hid hO.srow
    have hS1 := h.below hb1
    clear hcw hO h
    go_wp2_with fail
    refine (hrs.out _).mono ?_
    rintro e w2 ⟨hb2, ⟨hok, A2, c2, rfl, hD⟩ | ⟨hno, rfl⟩⟩
    · replace hok := Lib.hid hok
      have hS := hS1.below hb2
      have hW := Lib.hid (hO1.out.below hb2)
      have hD0 := Lib.hid hD
      have hb12 := Lib.hid (hb1.step hb2)
      clear hS1 hO1 hb1 hb2 hD hrs
      by_cases hsm : sides.size = k1
      · have g1 : ((sides.size : Int) == (k1 : Int)) = true := beq_iff_eq.2 (by omega)
        have g2 : ((sides.size : Int) != (k1 : Int)) = false := by rw [bne, g1]; rfl
        have g3 : (sides.size == k1) = true := beq_iff_eq.2 hsm
        have g4 : (sides.size != k1) = false := by rw [bne, g3]; rfl
        cases h20 : inR gap 0 20 with
        | false =>
          have hbad : Hid (r = ([], 2)) := Lib.hid (hr2.out (by rw [h20, Bool.and_false]))
          have hc := Lib.hid (fun W => in8_impl h20 W)
          replace hsm := Lib.hid hsm
          clear h20
          go_wp2_with fail
          refine (hc.out _).mono ?_
          rintro e w3 ⟨rfl, rfl⟩
          go_wp2
          go_ret2
          exact TOut.bad hbad.out hb12.out
        | true =>
          have hgood := Lib.hid (hr3.out (by rw [h20, hok.out, decide_eq_true hsm]; rfl))
          have hcode : Hid (r.2 = 0) := Lib.hid (by rw [hgood.out])
          obtain ⟨g20a, g20b⟩ := inR_iff.1 h20
          obtain ⟨G, hG⟩ : ∃ G : Nat, gap = (G : Int) := ⟨gap.toNat, by omega⟩
          subst hG
          have hG20 : G ≤ 20 := by omega
          have hc := Lib.hid (fun W => in8_impl h20 W)
          have hsz := hsm
          replace hsm := Lib.hid hsm
          rw [Int.toNat_natCast] at hgood
          clear h20 hr2 hr3
          go_wp2_with fail
          refine (hc.out _).mono ?_
          rintro e w3 ⟨rfl, rfl⟩
          clear hc
          go_wp2
          go_loopw [12, 15, 48, 54] (fun v cl i kk wr => ∃ q : Nat, q ≤ n ∧ i = .int .i64 q ∧ Below w2.heap.size w2 wr ∧ wr.ownsRow w2.heap.size 9 1 v q (((rows.take q).map fun r => lineT G (padsL sides.data.toList (widL k1 rows) r)).flatMap strC)) (fun _ _ i _ _ => n - (intOf i).toNat)
          case atStart => exact ⟨0, by omega, rfl, Below.refl _ _, owns_nil8 w2 _ _⟩
          case round =>
            rename World => wr
            obtain ⟨q, hq, rfl, hbo, hrow⟩ := hrel
            by_cases hlt3 : q < n
            · obtain ⟨bb, ob, B, mB, cB, rr, rfl, hbb, hxr, c0, hIr, hmB⟩ := sss_at (hS.below hbo) hlt3
              obtain ⟨hrl0, hrs⟩ := hr0.out rr (List.mem_of_getElem? hxr.out)
              rw [hIr.1] at hrl0
              subst hrl0
              have hps := Lib.hid (pads_size hr0.out hsm.out (List.mem_of_getElem? hxr.out))
              have hpl := Lib.hid (padsL_len sides.data.toList (widL mB rows) rr mB hsm.out hwl.out hIr.1)
              have hpa := Lib.hid (fun k ch v s => padsL_at sides.data.toList (widL mB rows) rr k ch v s)
              have hnx : Hid (((rows.take (q + 1)).map fun r => lineT G (padsL sides.data.toList (widL mB rows) r)).flatMap strC = ((rows.take q).map fun r => lineT G (padsL sides.data.toList (widL mB rows) r)).flatMap strC ++ [.string (lineT G (padsL sides.data.toList (widL mB rows) rr))]) := Lib.hid (by rw [take8 hxr.out, List.map_append, List.flatMap_append]; rfl)
              have hrmem := Lib.hid (List.mem_of_getElem? hxr.out)
              generalize hPL : padsL sides.data.toList (widL mB rows) rr = PL at *
              have hq0 : (0 : Int) ≤ (q : Int) := Int.natCast_nonneg _
              have hq1 : (q : Int) < (n : Int) := by omega
              have hwz := hbo.size
              have hrow0 := Lib.hid hrow
              have hbo0 := Lib.hid hbo
              have hWr := Lib.hid (hW.out.below hbo)
              have hDr := Lib.hid (hD0.out.below hbo)
              clear hPL hrow hrs
              go_wp2
              go_loopw [15, 54] (fun cl kk wi => ∃ k : Nat, k ≤ mB ∧ kk = .int .i64 k ∧ Below wr.heap.size wr wi ∧ wi.ownsRow wr.heap.size 9 1 cl k ((PL.take k).flatMap strC)) (fun _ kk _ => mB - (intOf kk).toNat)
              case atStart => exact ⟨0, by omega, rfl, Below.refl _ _, owns_nil8 _ _ _⟩
              case round =>
                rename World => wi
                obtain ⟨k, hk, rfl, hbi, hcl⟩ := hrel
                have hwzi := hbi.size
                by_cases hlt4 : k < mB
                · obtain ⟨bs, os, x, rfl, hbs, hx, e0⟩ := str_at (hIr.below hbi) hlt4
                  obtain ⟨v, hv, v0, v30, hle⟩ := wid_cell hr0.out hlt4
                  have hxv := hle rr hrmem.out x hx.out
                  obtain ⟨bw, ow, v', rfl, hbw, hv', p0⟩ := int_at (hWr.out.below hbi) hlt4
                  obtain rfl : v = v' := by have := hv'.out; rw [hv] at this; exact Option.some.inj this
                  have hks : k < sides.size := by omega
                  obtain ⟨bd, od, ch, rfl, hbd, hch, s0⟩ := side_at (hDr.out.below hbi) (show k < sides.size from hks)
                  have hchs : sides[k]'hks = ch := by have h1 := hch.out; rw [bytes_at8 sides hks] at h1; exact Option.some.inj h1
                  have hx30 : x.size ≤ 30 := by omega
                  have hat := hpa.out k ch v x hch.out hv hx.out
                  obtain ⟨d, hd⟩ : ∃ d : Nat, v - (x.size : Int) = (d : Int) := ⟨(v - (x.size : Int)).toNat, by omega⟩
                  have hw0 : IntKind.i64.wrap (v - (x.size : Int)) = (d : Int) := by rw [hd]; exact IntWalk.i64_in _ (by omega)
                  have hd30 : d ≤ 30 := by omega
                  rw [padC, hd, Int.toNat_natCast] at hat
                  have hbl := Lib.hid (fun W => blanks8_impl d (by omega) W)
                  have hbs1 := blanksB_size d
                  have hk0 : (0 : Int) ≤ (k : Int) := Int.natCast_nonneg _
                  have hk1 : (k : Int) < (mB : Int) := by omega
                  have hk2 : (k : Int) < (sides.size : Int) := by omega
                  have hbd2 : bd < w2.heap.size := by obtain ⟨_, _, _, e9, h9, _⟩ := side_at hD0.out (show k < sides.size from hks); cases e9; exact h9
                  replace hd := Lib.hid hd
                  clear hle hv hxv hchs
                  by_cases hL : ch.toNat = 108
                  · rw [if_pos hL] at hat
                    rw [sideV_l hL] at s0
                    have hfl := Lib.hid (fun W => fillL8 x (blanksB d) (by omega) W)
                    have hsn : Hid ((PL.take (k + 1)).flatMap strC = (PL.take k).flatMap strC ++ [.string (x ++ blanksB d)]) := Lib.hid (by rw [take8 hat, snoc8s])
                    have hme := meL8
                    clear hL hat hbs1 hx30
                    generalize blanksB d = BD at *
                    go_wp2_with fail
                    refine (hbl.out _).mono ?_
                    rintro e w5 ⟨rfl, hb5⟩
                    have s1 := cell_step s0 hb5
                    clear s0
                    go_wp2_with fail
                    refine (hfl.out _).mono ?_
                    rintro e w6 ⟨rfl, hb6⟩
                    have hb56 := hb5.step hb6
                    have hrk := Lib.hid (owns_keep8 hcl hb56)
                    have hbi6 := hbi.step hb56
                    have hwz6 := hbi6.size
                    clear hcl hb5 hb6 hb56 s1 hme
                    go_wp2_with (at_builtin; refine wpList_append_own _ rfl _ _ 27 rfl wr.heap.size 9 i0 _ 1 16 Try.underlying27 hi hz0 hz1 hz2 rfl (by decide) _ _ _ rfl (hrk.out.alloc _) ⟨w6.heap.size, 0, none⟩ 1 1 [.string (x ++ BD)] rfl rfl (news8 _ _ _) (one8s _) (by unfold maxLen; omega) (by omega) (by simp; omega) ?_)
                    intro vqz wqz hownqz hgrqz hnilqz
                    have hgqqz := grown_trans (grown_below (below_a1 w6 _) _) hgrqz
                    clear hgrqz hnilqz
                    have hz : Hid (wqz.ownsRow wr.heap.size 9 1 vqz (k + 1) ((PL.take (k + 1)).flatMap strC) ∧ Below wr.heap.size wr wqz) := Lib.hid ⟨by rw [hsn.out]; exact hownqz, hbi6.grown hgqqz hwz6 (fun j hj => owns_ge8 hrk.out hj)⟩
                    clear hownqz hgqqz
                    clear hrk
                    go_wp2
                    go_roundw
                    case rel => exact ⟨k + 1, by omega, by go_num, hz.out.2, hz.out.1⟩
                    case measure => simp [intOf]; omega
                  · rw [if_neg hL] at hat
                    rw [sideV_r hL] at s0
                    have hfl := Lib.hid (fun W => fillR8 x (blanksB d) (by omega) W)
                    have hsn : Hid ((PL.take (k + 1)).flatMap strC = (PL.take k).flatMap strC ++ [.string (blanksB d ++ x)]) := Lib.hid (by rw [take8 hat, snoc8s])
                    have hme := meR8
                    clear hL hat hbs1 hx30
                    generalize blanksB d = BD at *
                    go_wp2_with fail
                    refine (hbl.out _).mono ?_
                    rintro e w5 ⟨rfl, hb5⟩
                    have s1 := cell_step s0 hb5
                    clear s0
                    go_wp2_with fail
                    refine (hfl.out _).mono ?_
                    rintro e w6 ⟨rfl, hb6⟩
                    have hb56 := hb5.step hb6
                    have hrk := Lib.hid (owns_keep8 hcl hb56)
                    have hbi6 := hbi.step hb56
                    have hwz6 := hbi6.size
                    clear hcl hb5 hb6 hb56 s1 hme
                    go_wp2_with (at_builtin; refine wpList_append_own _ rfl _ _ 27 rfl wr.heap.size 9 i0 _ 1 16 Try.underlying27 hi hz0 hz1 hz2 rfl (by decide) _ _ _ rfl (hrk.out.alloc _) ⟨w6.heap.size, 0, none⟩ 1 1 [.string (BD ++ x)] rfl rfl (news8 _ _ _) (one8s _) (by unfold maxLen; omega) (by omega) (by simp; omega) ?_)
                    intro vqz wqz hownqz hgrqz hnilqz
                    have hgqqz := grown_trans (grown_below (below_a1 w6 _) _) hgrqz
                    clear hgrqz hnilqz
                    have hz : Hid (wqz.ownsRow wr.heap.size 9 1 vqz (k + 1) ((PL.take (k + 1)).flatMap strC) ∧ Below wr.heap.size wr wqz) := Lib.hid ⟨by rw [hsn.out]; exact hownqz, hbi6.grown hgqqz hwz6 (fun j hj => owns_ge8 hrk.out hj)⟩
                    clear hownqz hgqqz
                    clear hrk
                    go_wp2
                    go_roundw
                    case rel => exact ⟨k + 1, by omega, by go_num, hz.out.2, hz.out.1⟩
                    case measure => simp [intOf]; omega
                · obtain rfl : k = mB := by omega
                  rw [List.take_of_length_le (by rw [hpl.out]; omega)] at hcl
                  obtain ⟨gg, cc9, rfl, hcap, hgl, hcells⟩ := owns_s9 hpl.out (by omega) hcl
                  have hbG := Lib.hid (fun W => blanks8_impl G (by omega) W)
                  have hjl : (Lib.join (PL.map (·.data.toList)) (blanksB G).data.toList).length ≤ 140737488355328 := by
                    have h9 := lineL_len (List.replicate G 32) (by simpa using hG20) PL hps.out PL.length (Nat.le_refl _)
                    rw [List.take_length] at h9
                    have h10 := hpl.out
                    have : (Lib.join (PL.map (·.data.toList)) (blanksB G).data.toList).length ≤ 50 * PL.length := h9
                    omega
                  replace hjl := Lib.hid hjl
                  have hcells0 := Lib.hid hcells
                  have hres9 : Hid (lineT G PL = ⟨(Lib.join (PL.map (·.data.toList)) (blanksB G).data.toList).toArray⟩) := Lib.hid rfl
                  have hrl := Lib.hid (owns_keep8 hrow0.out hbi)
                  have hboi := below_step8 hbo0.out hbi hwz
                  have hwzi := hboi.size
                  clear hcells hcl
                  go_wp2_with fail
                  refine (hbG.out _).mono ?_
                  rintro e w5 ⟨rfl, hb5⟩
                  have hJ := Lib.hid (Try.strings_Join gg 0 cc9 PL (blanksB G) w5 (fun j y hy => cell_step (hcells0.out j y hy) hb5) (Nat.lt_of_lt_of_le hgl hb5.size) (by rw [hpl.out]; omega) (by rw [hpl.out]; exact hcap) hjl.out)
                  rw [hpl.out, ← hres9.out] at hJ
                  go_wp2_with fail
                  refine hJ.out.mono ?_
                  rintro e w6 ⟨rfl, hb6⟩
                  have hrk := Lib.hid (owns_keep8 hrl.out (hb5.step hb6))
                  have hbo6 := below_step8 hboi (hb5.step hb6) hwzi
                  have hwz6 := hbo6.size
                  clear hrl hb5 hb6 hJ
                  go_wp2_with (at_builtin; refine wpList_append_own _ rfl _ _ 27 rfl w2.heap.size 9 i0 _ 1 16 Try.underlying27 hi hz0 hz1 hz2 rfl (by decide) _ _ _ rfl (hrk.out.alloc _) ⟨w6.heap.size, 0, none⟩ 1 1 [.string (lineT G PL)] rfl rfl (news8 _ _ _) (one8s _) (by unfold maxLen; omega) (by omega) (by simp; omega) ?_)
                  intro vqz wqz hownqz hgrqz hnilqz
                  have hgqqz := grown_trans (grown_below (below_a1 w6 _) _) hgrqz
                  clear hgrqz hnilqz
                  have hz : Hid (wqz.ownsRow w2.heap.size 9 1 vqz (q + 1) (((rows.take (q + 1)).map fun r => lineT G (padsL sides.data.toList (widL k rows) r)).flatMap strC) ∧ Below w2.heap.size w2 wqz) := Lib.hid ⟨by rw [hnx.out, List.map_take]; exact hownqz, hbo6.grown hgqqz hwz6 (fun j hj => owns_ge8 hrk.out hj)⟩
                  clear hownqz hgqqz
                  clear hrk
                  go_wp2
                  go_roundw
                  case rel => exact ⟨q + 1, by omega, by go_num, hz.out.2, hz.out.1⟩
                  case measure => simp [intOf]; omega
            · obtain rfl : q = n := by omega
              rw [List.take_of_length_le (by rw [hl.out]; omega)] at hrow
              obtain ⟨A', c', rfl, hO⟩ := owns_s8 (by rw [List.length_map, hl.out]) hrow
              have hO2 := Lib.hid hO
              clear hO hrow
              go_wp2
              go_ret2
              exact ⟨A', q, c', by rw [hcode.out]; rfl, by omega, by rw [hgood.out]; exact hO2.out.mono hb12.out.size, hb12.out.step hbo⟩
      · have g1 : ((sides.size : Int) == (k1 : Int)) = false := beq_eq_false_iff_ne.2 (by omega)
        have g2 : ((sides.size : Int) != (k1 : Int)) = true := by rw [bne, g1]; rfl
        have g3 : (sides.size == k1) = false := beq_eq_false_iff_ne.2 hsm
        have g4 : (sides.size != k1) = true := by rw [bne, g3]; rfl
        have hbad : Hid (r = ([], 2)) := Lib.hid (hr2.out (by rw [decide_eq_false hsm, Bool.and_false, Bool.false_and]))
        replace hsm := Lib.hid hsm
        go_wp2
        go_ret2
        exact TOut.bad hbad.out hb12.out
    · have hbad : Hid (r = ([], 2)) := Lib.hid (hr2.out (by rw [hno]; rfl))
      have hb12 := Lib.hid (hb1.step hb2)
      clear hno hrs
      go_wp2
      go_ret2
      exact TOut.bad hbad.out hb12.out
end Go.Proofs.Ytmgoidngecimbaa
