/- Tables: the model's lines. -/
import Derived.Test.YtmgoidngecimbaaTl0
import Derived.Test.YtmgoidngecimbaaAlS
namespace Go.Proofs.Ytmgoidngecimbaa
open Go.RowKit Go.ChangeShapes Go.WideShapes Go.Deep
set_option linter.unusedVariables false
set_option linter.unusedSimpArgs false

set_option maxRecDepth 100000 in
set_option maxHeartbeats 6400000 in
theorem tl_spec (A : Option Addr) (n c : Nat) (rows : List (List ByteArray)) (sides : ByteArray) (gap : Int) (w : World) (h : StrSS w A n rows) (hn : n ≤ 1048576) (hg : ∀ r ∈ rows, sssGood r) (hss : sides.size ≤ 1048576) (hgw : (Lit.int .i64 gap).wf = true) :
    Calls Try.prog 7 #[.slice A n c, .string sides, .int .i64 gap] w (TOut (tlR rows sides gap) w) := by
  generalize hr : tlR rows sides gap = r
  replace hr := Lib.hid hr.symm
  clear hgw
  cases h1 : tableB rows with
  | false =>
    have hbad : Hid (r = ([], 1)) := Lib.hid (by rw [hr.out, tlR_1 h1])
    have hc1 := Lib.hid (rows8_spec A n c rows h1 w h hn hg)
    clear h1 hr h hg
    go_enter Try.func7, Try.ntmps7
    go_wp2_with fail
    refine hc1.out.mono ?_
    rintro e w1 ⟨rfl, hb1⟩
    go_wp2
    go_ret2
    exact TOut.bad hbad.out hb1
  | true =>
    obtain ⟨n1, n40, m1, m12, hrows⟩ := tableB_ok h1
    have hc1 := Lib.hid (rows8_spec A n c rows h1 w h hn hg)
    have hl := Lib.hid h.len
    rw [hl.out] at n1 n40
    obtain ⟨m, hm0⟩ : ∃ m, colsN rows = m := ⟨_, rfl⟩
    have hcw := Lib.hid (fun W (hW : StrSS W A n rows) => wid8_spec A n c rows W hW h1 hm0)
    have hr2 := Lib.hid (fun hq => hr.out.trans (tlR_2 h1 hq))
    have hr3 := Lib.hid (fun hq => hr.out.trans (tlR_0 h1 hq))
    have hcol := Lib.hid (fun r (hr : rows[0]? = some r) => (colsN_at hr).symm.trans hm0)
    rw [hm0] at m1 m12 hrows hr2 hr3
    have hr0 := Lib.hid hrows
    clear h1 hm0 hg hrows hr
    obtain ⟨i0, hi, hz0, hz1, hz2⟩ := info_parts Try.infoStr
    go_enter Try.func7, Try.ntmps7
    go_wp2_with fail
    refine hc1.out.mono ?_
    rintro e w1 ⟨rfl, hb1⟩
    have hS1 := h.below hb1
    replace hb1 := Lib.hid hb1
    clear h hc1
    go_wp2
    go_loopw [8] (fun i wr => ∃ k : Nat, k ≤ sides.size ∧ i = .int .i64 k ∧ w1 = wr ∧ sidesOk sides = (sides.data.toList.drop k).all sideB) (fun i _ => sides.size - (intOf i).toNat)
    case atStart => exact ⟨0, by omega, rfl, rfl, rfl⟩
    case round =>
      obtain ⟨k, hk, rfl, rfl, he⟩ := hrel
      replace he := Lib.hid he
      by_cases hlt : k < sides.size
      · have hk1 : (k : Int) < (sides.size : Int) := by omega
        have hst := Lib.hid (side_drop sides k hlt)
        by_cases hL : (sides[k]'hlt).toNat = 108
        · have g1 : (((sides[k]'hlt).toNat : Int) == 108) = true := beq_iff_eq.2 (by omega)
          have g2 : (((sides[k]'hlt).toNat : Int) != 108) = false := by rw [bne, g1]; rfl
          have hnx : Hid (sidesOk sides = (sides.data.toList.drop (k + 1)).all sideB) := Lib.hid (by rw [he.out, hst.out]; simp [sideB, hL])
          replace hL := Lib.hid hL
          go_wp2
          go_roundw
          case rel => exact ⟨k + 1, by omega, by go_num, by trivial, hnx.out⟩
          case measure => simp [intOf]; omega
        · have g1 : (((sides[k]'hlt).toNat : Int) == 108) = false := beq_eq_false_iff_ne.2 (by omega)
          have g2 : (((sides[k]'hlt).toNat : Int) != 108) = true := by rw [bne, g1]; rfl
          by_cases hR : (sides[k]'hlt).toNat = 114
          · have g3 : (((sides[k]'hlt).toNat : Int) == 114) = true := beq_iff_eq.2 (by omega)
            have g4 : (((sides[k]'hlt).toNat : Int) != 114) = false := by rw [bne, g3]; rfl
            have hnx : Hid (sidesOk sides = (sides.data.toList.drop (k + 1)).all sideB) := Lib.hid (by rw [he.out, hst.out]; simp [sideB, hR])
            replace hL := Lib.hid hL
            replace hR := Lib.hid hR
            go_wp2
            go_roundw
            case rel => exact ⟨k + 1, by omega, by go_num, by trivial, hnx.out⟩
            case measure => simp [intOf]; omega
          · have g3 : (((sides[k]'hlt).toNat : Int) == 114) = false := beq_eq_false_iff_ne.2 (by omega)
            have g4 : (((sides[k]'hlt).toNat : Int) != 114) = true := by rw [bne, g3]; rfl
            have hbad : Hid (r = ([], 2)) := Lib.hid (hr2.out (by rw [he.out, hst.out]; simp [sideB, hL, hR]))
            replace hL := Lib.hid hL
            replace hR := Lib.hid hR
            go_wp2
            go_ret2
            exact TOut.bad hbad.out hb1.out
      · obtain rfl : k = sides.size := by omega
        have hok : Hid (sidesOk sides = true) := Lib.hid (by rw [he.out, List.drop_of_length_le (by rw [size_len8]; omega)]; rfl)
        clear he
        obtain ⟨b', off', B0, m0, cc0, r0, rfl, hb', hx0, d0, hI0, hm0⟩ := sss_at (k := 0) hS1 (by omega)
        rw [Nat.add_zero] at d0
        have hcr := hcol.out r0 hx0.out
        rw [hI0.1] at hcr
        subst hcr
        have hn1 : (0 : Int) < (n : Int) := by omega
        have hn2 : 0 < n := by omega
        by_cases hsm : sides.size = m0
        · have g1 : ((sides.size : Int) == (m0 : Int)) = true := beq_iff_eq.2 (by omega)
          have g2 : ((sides.size : Int) != (m0 : Int)) = false := by rw [bne, g1]; rfl
          have g3 : (sides.size == m0) = true := beq_iff_eq.2 hsm
          have g4 : (sides.size != m0) = false := by rw [bne, g3]; rfl
          cases h20 : inR gap 0 20 with
          | false =>
            have hbad : Hid (r = ([], 2)) := Lib.hid (hr2.out (by rw [h20, Bool.and_false]))
            have hc := Lib.hid (fun W => in8_spec h20 W)
            replace hsm := Lib.hid hsm
            clear h20
            go_wp2_with fail
            refine (hc.out _).mono ?_
            rintro e w2 ⟨rfl, rfl⟩
            go_wp2
            go_ret2
            exact TOut.bad hbad.out hb1.out
          | true =>
            have hgood := Lib.hid (hr3.out (by rw [h20, hok.out, decide_eq_true hsm]; rfl))
            have hcode : Hid (r.2 = 0) := Lib.hid (by rw [hgood.out])
            obtain ⟨g20a, g20b⟩ := inR_iff.1 h20
            obtain ⟨G, hG⟩ : ∃ G : Nat, gap = (G : Int) := ⟨gap.toNat, by omega⟩
            subst hG
            have hG20 : G ≤ 20 := by omega
            have hc := Lib.hid (fun W => in8_spec h20 W)
            have hsz := hsm
            replace hsm := Lib.hid hsm
            clear h20 hr2 hr3
            go_wp2_with fail
            refine (hc.out _).mono ?_
            rintro e w2 ⟨rfl, rfl⟩
            go_wp2_with fail
            refine (hcw.out _ hS1).mono ?_
            rintro e w2 ⟨g, rfl, hW, hb2⟩
            have hS := hS1.below hb2
            have hb12 := Lib.hid (hb1.out.step hb2)
            have hW0 := Lib.hid hW
            clear hcw hc hS1 hb1 hb2 hW d0 hI0 hm0
            rw [Int.toNat_natCast] at hgood
            go_wp2
            go_loopw [10, 11, 12, 13, 14] (fun v i ln kk pd wr => ∃ q : Nat, q ≤ n ∧ i = .int .i64 q ∧ Below w2.heap.size w2 wr ∧ wr.ownsRow w2.heap.size 9 1 v q (((rows.take q).map fun r => lineT G (padsL sides.data.toList (widL m0 rows) r)).flatMap strC)) (fun _ i _ _ _ _ => n - (intOf i).toNat)
            case atStart => exact ⟨0, by omega, rfl, below_a1 _ _, owns_new8 w2 _⟩
            case round =>
              rename World => wr
              obtain ⟨q, hq, rfl, hbo, hrow⟩ := hrel
              by_cases hlt3 : q < n
              · obtain ⟨bb, ob, B, mB, cB, rr, hA, hbb, hxr, c0, hIr, hmB⟩ := sss_at (hS.below hbo) hlt3
                cases hA
                obtain ⟨hrl0, hrs⟩ := hr0.out rr (List.mem_of_getElem? hxr.out)
                rw [hIr.1] at hrl0
                subst hrl0
                have hps := Lib.hid (pads_size hr0.out hsm.out (List.mem_of_getElem? hxr.out))
                have hpl := Lib.hid (padsL_len sides.data.toList (widL mB rows) rr mB hsm.out (widL_len (by simp) (fun y hy => (hr0.out y hy).1)) hIr.1)
                have hpa := Lib.hid (fun k ch v s => padsL_at sides.data.toList (widL mB rows) rr k ch v s)
                have hnx : Hid (((rows.take (q + 1)).map fun r => lineT G (padsL sides.data.toList (widL mB rows) r)).flatMap strC = ((rows.take q).map fun r => lineT G (padsL sides.data.toList (widL mB rows) r)).flatMap strC ++ [.string (lineT G (padsL sides.data.toList (widL mB rows) rr))]) := Lib.hid (by rw [take8 hxr.out, List.map_append, List.flatMap_append]; rfl)
                have hrmem := Lib.hid (List.mem_of_getElem? hxr.out)
                generalize hPL : padsL sides.data.toList (widL mB rows) rr = PL at *
                have hlsz := Lib.hid (fun k hk => lnB_size G hG20 PL hps.out k (by rw [hpl.out]; exact hk))
                have hq0 : (0 : Int) ≤ (q : Int) := Int.natCast_nonneg _
                have hq1 : (q : Int) < (n : Int) := by omega
                have hwz := hbo.size
                have hrow0 := Lib.hid hrow
                have hbo0 := Lib.hid hbo
                have hWr := hW0.out.below hbo
                clear hPL hrow hrs
                go_wp2
                go_loopw [12, 13, 14] (fun ln kk pd wi => ∃ k : Nat, k ≤ mB ∧ kk = .int .i64 k ∧ ln = .string (lnB G PL k) ∧ Below wr.heap.size wr wi) (fun _ kk _ _ => mB - (intOf kk).toNat)
                case atStart => exact ⟨0, by omega, rfl, rfl, Below.refl _ _⟩
                case round =>
                  rename World => wi
                  obtain ⟨k, hk, rfl, rfl, hbi⟩ := hrel
                  have c1 := (hbi.cell (p := ⟨b', off' + q, none⟩) hbb).trans c0
                  by_cases hlt4 : k < mB
                  · obtain ⟨bs, os, x, rfl, hbs, hx, e0⟩ := str_at (hIr.below hbi) hlt4
                    obtain ⟨v, hv, v0, v30, hle⟩ := wid_cell hr0.out hlt4
                    have hxv := hle rr hrmem.out x hx.out
                    obtain ⟨p0, p1, p2, p3⟩ := OInts.parts8 (hWr.below hbi) hlt4
                    rw [getD_of8 hv] at p0
                    have hks : k < sides.size := by omega
                    have hx30 : x.size ≤ 30 := by omega
                    have hat := hpa.out k (sides[k]'hks) v x (bytes_at8 sides hks) hv hx.out
                    obtain ⟨d, hd⟩ : ∃ d : Nat, v - (x.size : Int) = (d : Int) := ⟨(v - (x.size : Int)).toNat, by omega⟩
                    have hw0 : IntKind.i64.wrap (v - (x.size : Int)) = (d : Int) := by rw [hd]; exact IntWalk.i64_in _ (by omega)
                    have hd30 : d ≤ 30 := by omega
                    rw [padC, hd, Int.toNat_natCast] at hat
                    have hbl := Lib.hid (fun W => blanks8_spec d (by omega) W)
                    have hgl := Lib.hid (fun W => blanks8_spec G (by omega) W)
                    have hbs1 := blanksB_size d
                    have hbs2 := blanksB_size G
                    have hln := hlsz.out k (by omega)
                    have hk0 : (0 : Int) ≤ (k : Int) := Int.natCast_nonneg _
                    have hk1 : (k : Int) < (mB : Int) := by omega
                    have hk2 : (k : Int) < (sides.size : Int) := by omega
                    replace hd := Lib.hid hd
                    clear p1 p3 hle hv hxv
                    by_cases hz0k : k = 0
                    · have gk : decide (0 < k) = false := decide_eq_false (by omega)
                      have gk2 : decide ((0 : Int) < (k : Int)) = false := decide_eq_false (by omega)
                      by_cases hL : (sides[k]'hks).toNat = 108
                      · have g5 : (((sides[k]'hks).toNat : Int) == 108) = true := beq_iff_eq.2 (by omega)
                        have g6 : ((sides[k]'hks).toNat == 108) = true := beq_iff_eq.2 hL
                        rw [if_pos hL] at hat
                        have hnl : Hid (lnB G PL (k + 1) = lnB G PL k ++ (x ++ blanksB d)) := Lib.hid (by subst hz0k; rw [lnB_zero, empty_app8]; exact lnB_first hat)
                        replace hL := Lib.hid hL
                        replace hz0k := Lib.hid hz0k
                        clear hat hlsz
                        generalize blanksB d = BD at *
                        generalize blanksB G = BG at *
                        generalize lnB G PL k = LN at *
                        have hcat1 : ¬ 9223372036854775807 < x.size + BD.size := by omega
                        have hcat2 : ¬ 9223372036854775807 < LN.size + (x ++ BD).size := by rw [ByteArray.size_append]; omega
                        have hcat3 : ¬ 9223372036854775807 < LN.size + (x.size + BD.size) := by omega
                        clear hbs1 hbs2 hln hx30
                        go_wp2_with fail
                        go_still_tail 13, (by kernel_rfl)
                        change wpList _ _ _ _ _ wi.drew
                        have k1 : wi.drew.cell? ⟨b', off' + q, none⟩ = some (.slice (some ⟨bs, os, none⟩) mB cB) := c1
                        have k2 : wi.drew.cell? ⟨bs, os + k, none⟩ = some (.string x) := e0
                        have hbd := hbi.drew
                        generalize wi.drew = w7 at *
                        go_wp2_with fail
                        refine (hbl.out _).mono ?_
                        rintro e w8 ⟨rfl, hb8⟩
                        have k3 := cell_step k1 hb8
                        have k4 := cell_step k2 hb8
                        have hbi8 := hbd.step hb8
                        clear k1 k2 c1 e0 hbd hb8
                        go_wp2
                        go_roundw
                        case rel => exact ⟨k + 1, by omega, by go_num, by rw [hnl.out], hbi8⟩
                        case measure => simp [intOf]; omega
                      · have g5 : (((sides[k]'hks).toNat : Int) == 108) = false := beq_eq_false_iff_ne.2 (by omega)
                        have g6 : ((sides[k]'hks).toNat == 108) = false := beq_eq_false_iff_ne.2 hL
                        rw [if_neg hL] at hat
                        have hnl : Hid (lnB G PL (k + 1) = lnB G PL k ++ (blanksB d ++ x)) := Lib.hid (by subst hz0k; rw [lnB_zero, empty_app8]; exact lnB_first hat)
                        replace hL := Lib.hid hL
                        replace hz0k := Lib.hid hz0k
                        clear hat hlsz
                        generalize blanksB d = BD at *
                        generalize blanksB G = BG at *
                        generalize lnB G PL k = LN at *
                        have hcat1 : ¬ 9223372036854775807 < BD.size + x.size := by omega
                        have hcat2 : ¬ 9223372036854775807 < LN.size + (BD ++ x).size := by rw [ByteArray.size_append]; omega
                        have hcat3 : ¬ 9223372036854775807 < LN.size + (BD.size + x.size) := by omega
                        clear hbs1 hbs2 hln hx30
                        go_wp2_with fail
                        go_still_tail 13, (by kernel_rfl)
                        change wpList _ _ _ _ _ wi.drew
                        have k1 : wi.drew.cell? ⟨b', off' + q, none⟩ = some (.slice (some ⟨bs, os, none⟩) mB cB) := c1
                        have k2 : wi.drew.cell? ⟨bs, os + k, none⟩ = some (.string x) := e0
                        have hbd := hbi.drew
                        generalize wi.drew = w7 at *
                        go_wp2_with fail
                        refine (hbl.out _).mono ?_
                        rintro e w8 ⟨rfl, hb8⟩
                        have k3 := cell_step k1 hb8
                        have k4 := cell_step k2 hb8
                        have hbi8 := hbd.step hb8
                        clear k1 k2 c1 e0 hbd hb8
                        go_wp2
                        go_roundw
                        case rel => exact ⟨k + 1, by omega, by go_num, by rw [hnl.out], hbi8⟩
                        case measure => simp [intOf]; omega
                    · have gk : decide (0 < k) = true := decide_eq_true (by omega)
                      have gk2 : decide ((0 : Int) < (k : Int)) = true := decide_eq_true (by omega)
                      by_cases hL : (sides[k]'hks).toNat = 108
                      · have g5 : (((sides[k]'hks).toNat : Int) == 108) = true := beq_iff_eq.2 (by omega)
                        have g6 : ((sides[k]'hks).toNat == 108) = true := beq_iff_eq.2 hL
                        rw [if_pos hL] at hat
                        have hnl : Hid (lnB G PL (k + 1) = (lnB G PL k ++ blanksB G) ++ (x ++ blanksB d)) := Lib.hid (lnB_next hat hz0k)
                        replace hL := Lib.hid hL
                        replace hz0k := Lib.hid hz0k
                        clear hat hlsz
                        generalize blanksB d = BD at *
                        generalize blanksB G = BG at *
                        generalize lnB G PL k = LN at *
                        have hcat1 : ¬ 9223372036854775807 < x.size + BD.size := by omega
                        have hcat2 : ¬ 9223372036854775807 < (LN ++ BG).size + (x ++ BD).size := by rw [ByteArray.size_append, ByteArray.size_append]; omega
                        have hcat3 : ¬ 9223372036854775807 < LN.size + BG.size + (x.size + BD.size) := by omega
                        have hcat4 : ¬ 9223372036854775807 < LN.size + BG.size := by omega
                        clear hbs1 hbs2 hln hx30
                        go_wp2_with fail
                        refine (hgl.out _).mono ?_
                        rintro e w5 ⟨rfl, hb5⟩
                        have c2 := cell_step c1 hb5
                        have e2 := cell_step e0 hb5
                        have p2' := cell_step p0 hb5
                        clear c1 e0 p0
                        go_wp2_with fail
                        go_still_tail 13, (by kernel_rfl)
                        change wpList _ _ _ _ _ w5.drew
                        have k1 : w5.drew.cell? ⟨b', off' + q, none⟩ = some (.slice (some ⟨bs, os, none⟩) mB cB) := c2
                        have k2 : w5.drew.cell? ⟨bs, os + k, none⟩ = some (.string x) := e2
                        have hbd := (hbi.step hb5).drew
                        generalize w5.drew = w7 at *
                        go_wp2_with fail
                        refine (hbl.out _).mono ?_
                        rintro e w8 ⟨rfl, hb8⟩
                        have k3 := cell_step k1 hb8
                        have k4 := cell_step k2 hb8
                        have hbi8 := hbd.step hb8
                        clear k1 k2 c2 e2 hb5 hbd hb8
                        go_wp2
                        go_roundw
                        case rel => exact ⟨k + 1, by omega, by go_num, by rw [hnl.out], hbi8⟩
                        case measure => simp [intOf]; omega
                      · have g5 : (((sides[k]'hks).toNat : Int) == 108) = false := beq_eq_false_iff_ne.2 (by omega)
                        have g6 : ((sides[k]'hks).toNat == 108) = false := beq_eq_false_iff_ne.2 hL
                        rw [if_neg hL] at hat
                        have hnl : Hid (lnB G PL (k + 1) = (lnB G PL k ++ blanksB G) ++ (blanksB d ++ x)) := Lib.hid (lnB_next hat hz0k)
                        replace hL := Lib.hid hL
                        replace hz0k := Lib.hid hz0k
                        clear hat hlsz
                        generalize blanksB d = BD at *
                        generalize blanksB G = BG at *
                        generalize lnB G PL k = LN at *
                        have hcat1 : ¬ 9223372036854775807 < BD.size + x.size := by omega
                        have hcat2 : ¬ 9223372036854775807 < (LN ++ BG).size + (BD ++ x).size := by rw [ByteArray.size_append, ByteArray.size_append]; omega
                        have hcat3 : ¬ 9223372036854775807 < LN.size + BG.size + (BD.size + x.size) := by omega
                        have hcat4 : ¬ 9223372036854775807 < LN.size + BG.size := by omega
                        clear hbs1 hbs2 hln hx30
                        go_wp2_with fail
                        refine (hgl.out _).mono ?_
                        rintro e w5 ⟨rfl, hb5⟩
                        have c2 := cell_step c1 hb5
                        have e2 := cell_step e0 hb5
                        have p2' := cell_step p0 hb5
                        clear c1 e0 p0
                        go_wp2_with fail
                        go_still_tail 13, (by kernel_rfl)
                        change wpList _ _ _ _ _ w5.drew
                        have k1 : w5.drew.cell? ⟨b', off' + q, none⟩ = some (.slice (some ⟨bs, os, none⟩) mB cB) := c2
                        have k2 : w5.drew.cell? ⟨bs, os + k, none⟩ = some (.string x) := e2
                        have hbd := (hbi.step hb5).drew
                        generalize w5.drew = w7 at *
                        go_wp2_with fail
                        refine (hbl.out _).mono ?_
                        rintro e w8 ⟨rfl, hb8⟩
                        have k3 := cell_step k1 hb8
                        have k4 := cell_step k2 hb8
                        have hbi8 := hbd.step hb8
                        clear k1 k2 c2 e2 hb5 hbd hb8
                        go_wp2
                        go_roundw
                        case rel => exact ⟨k + 1, by omega, by go_num, by rw [hnl.out], hbi8⟩
                        case measure => simp [intOf]; omega
                  · obtain rfl : k = mB := by omega
                    have hall := Lib.hid (lnB_all G PL hpl.out)
                    have hrl := Lib.hid (owns_keep8 hrow0.out hbi)
                    have hboi := below_step8 hbo0.out hbi hwz
                    have hwzi := hboi.size
                    clear c0
                    go_wp2_with (at_builtin; refine wpList_append_own _ rfl _ _ 27 rfl w2.heap.size 9 i0 _ 1 16 Try.underlying27 hi hz0 hz1 hz2 rfl (by decide) _ _ _ rfl (hrl.out.alloc _) ⟨wi.heap.size, 0, none⟩ 1 1 [.string (lnB G PL k)] rfl rfl (news8 _ _ _) (one8s _) (by unfold maxLen; omega) (by omega) (by simp; omega) ?_)
                    intro vqz wqz hownqz hgrqz hnilqz
                    have hgqqz := grown_trans (grown_below (below_a1 wi _) _) hgrqz
                    clear hgrqz hnilqz
                    have hz : Hid (wqz.ownsRow w2.heap.size 9 1 vqz (q + 1) (((rows.take (q + 1)).map fun r => lineT G (padsL sides.data.toList (widL k rows) r)).flatMap strC) ∧ Below w2.heap.size w2 wqz) := Lib.hid ⟨by rw [hnx.out, ← hall.out, List.map_take]; exact hownqz, hboi.grown hgqqz hwzi (fun j hj => owns_ge8 hrl.out hj)⟩
                    clear hownqz hgqqz
                    clear hrl
                    go_wp2
                    go_roundw
                    case rel => exact ⟨q + 1, by omega, by go_num, hz.out.2, hz.out.1⟩
                    case measure => simp [intOf]; omega
              · obtain rfl : q = n := by omega
                rw [List.take_of_length_le (by rw [hl.out]; omega)] at hrow
                obtain ⟨A', c', rfl, hO⟩ := owns_s8 (by rw [List.length_map, hl.out]) hrow
                have hO2 := Lib.hid hO
                clear hO hrow
                go_wp2
                go_ret2
                exact ⟨A', q, c', by rw [hcode.out]; rfl, by omega, by rw [hgood.out]; exact hO2.out.mono hb12.out.size, hb12.out.step hbo⟩
        · have g1 : ((sides.size : Int) == (m0 : Int)) = false := beq_eq_false_iff_ne.2 (by omega)
          have g2 : ((sides.size : Int) != (m0 : Int)) = true := by rw [bne, g1]; rfl
          have g3 : (sides.size == m0) = false := beq_eq_false_iff_ne.2 hsm
          have g4 : (sides.size != m0) = true := by rw [bne, g3]; rfl
          have hbad : Hid (r = ([], 2)) := Lib.hid (hr2.out (by rw [decide_eq_false hsm, Bool.and_false, Bool.false_and]))
          replace hsm := Lib.hid hsm
          go_wp2
          go_ret2
          exact TOut.bad hbad.out hb1.out
end Go.Proofs.Ytmgoidngecimbaa
