/- Corrections: the model's CorrectionPlan, FewestErased, ApplyPlan. -/
import Derived.Test.YtomnnhmhmehdjaaCo6
namespace Go.Proofs.Ytomnnhmhmehdjaa
open Go.RowKit Go.ChangeShapes Go.WideShapes Go.Deep
set_option linter.unusedVariables false
set_option linter.unusedSimpArgs false

theorem codeC_ok {ps : List OverD} {t s : ByteArray} (h : codeC ps t s = 0) : ovB ps = true ∧ t.size = s.size ∧ s.size ≤ 60 := by
  unfold codeC at h
  split at h
  · rename_i h1
    split at h
    · split at h
      · rename_i h3
        split at h
        · rename_i h4
          exact ⟨h1, h4, lineC_size h3⟩
        · omega
      · omega
    · omega
  · omega
theorem ret12_ss {p : ByteArray × ByteArray × Int} {a b : ByteArray} {c : Int} (h : p = (a, b, c)) : Ending.returned (.tuple #[.string a, .string b, .int .i64 c]) = .returned (.tuple #[.string p.1, .string p.2.1, .int .i64 p.2.2]) := by rw [h]
def coP (ps : List OverD) (t s : ByteArray) : ByteArray × ByteArray × Int := if codeC ps t s = 0 then (⟨(planL ps t s s.size).toArray⟩, ⟨(letsL ps t s s.size).toArray⟩, 0) else (ByteArray.empty, ByteArray.empty, codeC ps t s)
def feR (ps : List OverD) (t s : ByteArray) : Int × Int := if codeC ps t s = 0 then ((erL (planL ps t s s.size) : Int), 0) else (0, codeC ps t s)
theorem planL_size (ps : List OverD) (t s : ByteArray) (k : Nat) : (⟨(planL ps t s k).toArray⟩ : ByteArray).size = k := by
  show (planL ps t s k).toArray.size = k
  rw [List.size_toArray, planL_len]
set_option maxHeartbeats 1600000 in
theorem cp12_spec (A : Option Addr) (n c : Nat) (ps : List OverD) (t s : ByteArray) (w : World) (h : Overs w A n ps) (hn : n ≤ 1048576) (hg : ∀ x ∈ ps, x.good) (ht : t.size ≤ 1048576) (hs : s.size ≤ 1048576) :
    Calls Try.prog 22 #[.slice A n c, .string t, .string s] w fun e w' => e = .returned (.tuple #[.string (coP ps t s).1, .string (coP ps t s).2.1, .int .i64 (coP ps t s).2.2]) ∧ Below w.heap.size w w' := by
  generalize hr : coP ps t s = r
  replace hr := Lib.hid hr.symm
  have hc1 := Lib.hid (code12 A n c ps t s rfl w h hn hg ht hs)
  by_cases h0 : codeC ps t s = 0
  · obtain ⟨p0, p1, p2⟩ := codeC_ok h0
    have hres : Hid (r = (⟨(planL ps t s s.size).toArray⟩, ⟨(letsL ps t s s.size).toArray⟩, 0)) := Lib.hid (by rw [hr.out, coP, if_pos h0])
    have hc2 := Lib.hid (fun W (hW : Overs W A n ps) => plan12 A n c ps t s p1 p2 W hW hn (fun x hx => ovB_one p0 hx))
    rw [h0] at hc1
    clear hr h0 hg p0 p1
    go_enter Try.func22, Try.ntmps22
    go_wp2_with fail
    refine hc1.out.mono ?_
    rintro e w1 ⟨rfl, hb1⟩
    have hS := Lib.hid (h.below hb1)
    go_wp2_with fail
    refine (hc2.out _ hS.out).mono ?_
    rintro e w2 ⟨rfl, hb2⟩
    go_wp2
    go_ret3
    exact ⟨ret12_ss hres.out, hb1.step hb2⟩
  · have hres : Hid (r = (ByteArray.empty, ByteArray.empty, codeC ps t s)) := Lib.hid (by rw [hr.out, coP, if_neg h0])
    clear hr h hg
    generalize codeC ps t s = q at *
    have y1 : (q == 0) = false := beq_eq_false_iff_ne.2 h0
    have y2 : (q != 0) = true := by rw [bne, y1]; rfl
    replace h0 := Lib.hid h0
    go_enter Try.func22, Try.ntmps22
    go_wp2_with fail
    refine hc1.out.mono ?_
    rintro e w1 ⟨rfl, hb1⟩
    go_wp2
    go_ret3
    exact ⟨ret12_ss hres.out, hb1⟩
set_option maxHeartbeats 1600000 in
theorem fe12_spec (A : Option Addr) (n c : Nat) (ps : List OverD) (t s : ByteArray) (w : World) (h : Overs w A n ps) (hn : n ≤ 1048576) (hg : ∀ x ∈ ps, x.good) (ht : t.size ≤ 1048576) (hs : s.size ≤ 1048576) :
    Calls Try.prog 28 #[.slice A n c, .string t, .string s] w fun e w' => e = .returned (.tuple #[.int .i64 (feR ps t s).1, .int .i64 (feR ps t s).2]) ∧ Below w.heap.size w w' := by
  generalize hr : feR ps t s = r
  replace hr := Lib.hid hr.symm
  have hc1 := Lib.hid (code12 A n c ps t s rfl w h hn hg ht hs)
  by_cases h0 : codeC ps t s = 0
  · obtain ⟨p0, p1, p2⟩ := codeC_ok h0
    have hres : Hid (r = ((erL (planL ps t s s.size) : Int), 0)) := Lib.hid (by rw [hr.out, feR, if_pos h0])
    have hc2 := Lib.hid (fun W (hW : Overs W A n ps) => plan12 A n c ps t s p1 p2 W hW hn (fun x hx => ovB_one p0 hx))
    rw [h0] at hc1
    have hc3 := Lib.hid (fun W => erased12 ⟨(planL ps t s s.size).toArray⟩ (v := (erL (planL ps t s s.size) : Int)) rfl W (by rw [planL_size]; unfold maxLen; omega))
    clear hr h0 hg p0 p1
    go_enter Try.func28, Try.ntmps28
    go_wp2_with fail
    refine hc1.out.mono ?_
    rintro e w1 ⟨rfl, hb1⟩
    have hS := Lib.hid (h.below hb1)
    go_wp2_with fail
    refine (hc2.out _ hS.out).mono ?_
    rintro e w2 ⟨rfl, hb2⟩
    go_wp2_with fail
    refine (hc3.out _).mono ?_
    rintro e w3 ⟨rfl, rfl⟩
    go_wp2
    go_ret2
    exact ⟨ret8_2 hres.out, hb1.step hb2⟩
  · have hres : Hid (r = (0, codeC ps t s)) := Lib.hid (by rw [hr.out, feR, if_neg h0])
    clear hr h hg
    generalize codeC ps t s = q at *
    have y1 : (q == 0) = false := beq_eq_false_iff_ne.2 h0
    have y2 : (q != 0) = true := by rw [bne, y1]; rfl
    replace h0 := Lib.hid h0
    go_enter Try.func28, Try.ntmps28
    go_wp2_with fail
    refine hc1.out.mono ?_
    rintro e w1 ⟨rfl, hb1⟩
    go_wp2
    go_ret2
    exact ⟨ret8_2 hres.out, hb1⟩
/-- What stands at a place when the plan has been followed. -/
def apO (ps : List OverD) (t p l : ByteArray) (i : Nat) : UInt8 := if (bAt p i).toNat = 35 then bAt l i else if (bAt p i).toNat = 43 then seenV ps (bAt t i) (bAt l i) else bAt t i
def apB (ps : List OverD) (t p l : ByteArray) (k : Nat) : Bool := (List.range' 0 k).all fun i => !decide ((apO ps t p l i).toNat = 0)
def apL (ps : List OverD) (t p l : ByteArray) (k : Nat) : List UInt8 := (List.range' 0 k).map (apO ps t p l)
theorem apB_next (ps : List OverD) (t p l : ByteArray) (k : Nat) : apB ps t p l (k + 1) = (apB ps t p l k && !decide ((apO ps t p l k).toNat = 0)) := by
  rw [apB, List.range'_concat, List.all_append, apB]
  simp
theorem apL_next (ps : List OverD) (t p l : ByteArray) (k : Nat) : apL ps t p l (k + 1) = apL ps t p l k ++ [apO ps t p l k] := by
  rw [apL, List.range'_concat, List.map_append, apL]
  simp
theorem apL_len (ps : List OverD) (t p l : ByteArray) (k : Nat) : (apL ps t p l k).length = k := by simp [apL]
theorem apB_no {ps : List OverD} {t p l : ByteArray} {k m : Nat} (h : apB ps t p l k = false) (hm : k ≤ m) : apB ps t p l m = false := by
  induction m with
  | zero =>
    obtain rfl : k = 0 := by omega
    exact h
  | succ m ih =>
    rcases Nat.lt_or_ge m k with h1 | h1
    · obtain rfl : k = m + 1 := by omega
      exact h
    · rw [apB_next, ih h1, Bool.false_and]
def apR (ps : List OverD) (t p l : ByteArray) : ByteArray × Int :=
  if codeC ps t l = 0 then (if planB p = true then (if p.size = t.size then (if apB ps t p l p.size = true then (⟨(apL ps t p l p.size).toArray⟩, 0) else (ByteArray.empty, 3)) else (ByteArray.empty, 6)) else (ByteArray.empty, 7)) else (ByteArray.empty, codeC ps t l)
set_option maxHeartbeats 2400000 in
theorem ap12_spec (A : Option Addr) (n c : Nat) (ps : List OverD) (t p l : ByteArray) (w : World) (h : Overs w A n ps) (hn : n ≤ 1048576) (hg : ∀ x ∈ ps, x.good) (ht : t.size ≤ 1048576) (hp : p.size ≤ 1048576) (hl : l.size ≤ 1048576) :
    Calls Try.prog 26 #[.slice A n c, .string t, .string p, .string l] w fun e w' => e = .returned (.tuple #[.string (apR ps t p l).1, .int .i64 (apR ps t p l).2]) ∧ Below w.heap.size w w' := by
  generalize hr : apR ps t p l = r
  replace hr := Lib.hid hr.symm
  have hpm : p.size ≤ maxLen := by unfold maxLen; omega
  have hc1 := Lib.hid (code12 A n c ps t l rfl w h hn hg ht hl)
  by_cases h0 : codeC ps t l = 0
  · obtain ⟨p0, p1, p2⟩ := codeC_ok h0
    rw [h0] at hc1
    cases h2 : planB p with
    | false =>
      have hres : Hid (r = (ByteArray.empty, 7)) := Lib.hid (by rw [hr.out, apR, if_pos h0, h2]; rfl)
      have hc2 := Lib.hid (fun W => isplan12 p h2 W hpm)
      clear hr h0 h2 h hg p0
      go_enter Try.func26, Try.ntmps26
      go_wp2_with fail
      refine hc1.out.mono ?_
      rintro e w1 ⟨rfl, hb1⟩
      go_wp2_with fail
      refine (hc2.out _).mono ?_
      rintro e w2 ⟨rfl, rfl⟩
      go_wp2
      go_ret2
      exact ⟨ret_s10 hres.out, hb1⟩
    | true =>
      have hc2 := Lib.hid (fun W => isplan12 p h2 W hpm)
      by_cases h3 : p.size = t.size
      · have e1 : ((p.size : Int) == (t.size : Int)) = true := beq_iff_eq.2 (by omega)
        have e2 : ((p.size : Int) != (t.size : Int)) = false := by rw [bne, e1]; rfl
        have e3 : (p.size == t.size) = true := beq_iff_eq.2 h3
        have hres : Hid (r = if apB ps t p l p.size = true then (⟨(apL ps t p l p.size).toArray⟩, 0) else (ByteArray.empty, 3)) := Lib.hid (by rw [hr.out, apR, if_pos h0, h2, if_pos rfl, if_pos h3])
        have hcall := Lib.hid (fun (u q : UInt8) W (hW : Overs W A n ps) => seen12 A n c ps u q rfl W hW hn (fun x hx => ovB_one p0 hx))
        obtain ⟨i0, hi, hz0, hz1, hz2⟩ := info_parts Try.infoByt
        clear hr h0 h2 hg p0
        go_enter Try.func26, Try.ntmps26
        go_wp2_with fail
        refine hc1.out.mono ?_
        rintro e w1 ⟨rfl, hb1⟩
        have hS0 := h.below hb1
        replace h := Lib.hid h
        go_wp2_with fail
        refine (hc2.out _).mono ?_
        rintro e w2 ⟨rfl, rfl⟩
        go_wp2
        go_loopw [11, 12] (fun v i wr => ∃ (k : Nat) (v' : Value), v' = v ∧ k ≤ p.size ∧ i = .int .i64 k ∧ Below w1.heap.size w1 wr ∧ apB ps t p l k = true ∧ OByt wr w1.heap.size v (apL ps t p l k)) (fun _ i _ => p.size - (intOf i).toNat)
        case atStart => exact ⟨0, _, rfl, by omega, rfl, below_a1 _ _, rfl, byt_new w1⟩
        case round =>
          rename World => wr
          obtain ⟨k, v, rfl, hk, rfl, hbw, hok, hv⟩ := hrel
          by_cases hlt : k < p.size
          · have hlt2 : k < t.size := by omega
            have hlt3 : k < l.size := by omega
            have hk0 : (0 : Int) ≤ (k : Int) := Int.natCast_nonneg _
            have hk1 : (k : Int) < (p.size : Int) := by omega
            have hk2 : (k : Int) < (t.size : Int) := by omega
            have hk3 : (k : Int) < (l.size : Int) := by omega
            have hwk : IntKind.i64.wrap ((k : Int) + 1) = ((k + 1 : Nat) : Int) := by rw [IntWalk.i64_in _ (by omega)]; omega
            have hL := Lib.hid (apL_next ps t p l k)
            have hB := Lib.hid (apB_next ps t p l k)
            have hO := Lib.hid (show apO ps t p l k = if (bAt p k).toNat = 35 then bAt l k else if (bAt p k).toNat = 43 then seenV ps (bAt t k) (bAt l k) else bAt t k from rfl)
            have hLk : (apL ps t p l k).length = k := apL_len ps t p l k
            have hno : Hid (apB ps t p l (k + 1) = false → r = (ByteArray.empty, 3)) := Lib.hid fun hf => by
              rw [hres.out, apB_no hf (by omega)]
              rfl
            rw [bAt_eq hlt, bAt_eq hlt2, bAt_eq hlt3] at hO
            generalize apL ps t p l k = L at *
            generalize apO ps t p l k = x at *
            have hS := Lib.hid (hS0.below hbw)
            have hc := Lib.hid (hcall.out (t[k]'hlt2) (l[k]'hlt3))
            replace hv := Lib.hid hv
            replace hok := Lib.hid hok
            by_cases h35 : (p[k]'hlt).toNat = 35
            · have y35 : (((p[k]'hlt).toNat : Int) == 35) = true := beq_iff_eq.2 (by omega)
              have w35 : ((p[k]'hlt).toNat == 35) = true := beq_iff_eq.2 h35
              have hx : Hid (x = l[k]'hlt3) := Lib.hid (by rw [hO.out, if_pos h35])
              by_cases hz : (l[k]'hlt3).toNat = 0
              · have z1 : (((l[k]'hlt3).toNat : Int) == 0) = true := beq_iff_eq.2 (by omega)
                have z2 : ((l[k]'hlt3).toNat == 0) = true := beq_iff_eq.2 hz
                have hf : Hid (r = (ByteArray.empty, 3)) := Lib.hid (hno.out (by rw [hB.out, hok.out, hx.out, decide_eq_true hz]; rfl))
                clear hz hB hL hx hno hO h35
                go_wp2
                go_ret2
                exact ⟨ret_s10 hf.out, hb1.step hbw⟩
              · have z1 : (((l[k]'hlt3).toNat : Int) == 0) = false := beq_eq_false_iff_ne.2 (by omega)
                have z2 : ((l[k]'hlt3).toNat == 0) = false := beq_eq_false_iff_ne.2 hz
                have hB2 : Hid (apB ps t p l (k + 1) = true) := Lib.hid (by rw [hB.out, hok.out, hx.out, decide_eq_false hz]; rfl)
                have hL2 : Hid (apL ps t p l (k + 1) = L ++ [l[k]'hlt3]) := Lib.hid (by rw [hL.out, hx.out])
                clear hz hB hL hx hno hO h35
                have hbs := hbw.size
                go_wp2_with (at_builtin; refine wpList_append_own _ rfl _ _ 78 rfl w1.heap.size 5 i0 _ 1 1 Try.underlying78 hi hz0 hz1 hz2 rfl (by decide) _ _ _ rfl (hv.out.alloc _) ⟨wr.heap.size, 0, none⟩ 1 1 [.int .u8 ((l[k]'hlt3).toNat : Int)] rfl rfl (news8 _ _ _) (byt_one _) (by unfold maxLen; omega) (by omega) (by simp; omega) ?_)
                intro vx wx hox hgx hnx
                have hvx : OByt wx w1.heap.size vx (L ++ [l[k]'hlt3]) := by
                  show wx.ownsRow w1.heap.size 5 1 vx (L ++ [l[k]'hlt3]).length ((L ++ [l[k]'hlt3]).map bytU)
                  rw [byt_add _ (l[k]'hlt3 : UInt8) _ rfl, List.length_append, hLk]
                  exact hox
                have hbx : Below w1.heap.size w1 wx := hbw.grown (grown_trans (grown_below (below_a1 wr _) _) hgx) hbw.size (fun j hj => owns_ge8 hv.out hj)
                replace hvx := Lib.hid hvx
                clear hox hgx hnx
                go_wp2
                go_roundw
                case rel => exact ⟨k + 1, _, rfl, by omega, by go_num, hbx, hB2.out, by rw [hL2.out]; exact hvx.out⟩
                case measure => simp [intOf]; omega
            · have y35 : (((p[k]'hlt).toNat : Int) == 35) = false := beq_eq_false_iff_ne.2 (by omega)
              have w35 : ((p[k]'hlt).toNat == 35) = false := beq_eq_false_iff_ne.2 h35
              by_cases h43 : (p[k]'hlt).toNat = 43
              · have y43 : (((p[k]'hlt).toNat : Int) == 43) = true := beq_iff_eq.2 (by omega)
                have w43 : ((p[k]'hlt).toNat == 43) = true := beq_iff_eq.2 h43
                obtain ⟨q, hq⟩ : ∃ q, seenV ps (t[k]'hlt2) (l[k]'hlt3) = q := ⟨_, rfl⟩
                have hcq := hc
                rw [hq] at hcq hO
                replace hq := Lib.hid hq
                have hx : Hid (x = q) := Lib.hid (by rw [hO.out, if_neg h35, if_pos h43])
                by_cases hz : (q).toNat = 0
                · have z1 : (((q).toNat : Int) == 0) = true := beq_iff_eq.2 (by omega)
                  have z2 : ((q).toNat == 0) = true := beq_iff_eq.2 hz
                  have hf : Hid (r = (ByteArray.empty, 3)) := Lib.hid (hno.out (by rw [hB.out, hok.out, hx.out, decide_eq_true hz]; rfl))
                  clear hz hB hL hx hno hO h35 h43
                  go_wp2_with fail
                  go_quiet ((go_at_call 56; refine quiet_l (hcq.out _ ?_); first | exact hS.out | exact hS.out.drewN _))
                  obtain ⟨w2, hw2⟩ : ∃ w2, wr.drewN nq = w2 := ⟨_, rfl⟩
                  have hb2 : Below w1.heap.size w1 w2 := hw2 ▸ below_drewN hbw _
                  have hvq : Hid (OByt w2 w1.heap.size v L) := Lib.hid (hw2 ▸ byt_draw hv.out)
                  rw [hw2]
                  clear hw2
                  go_wp2
                  go_ret2
                  exact ⟨ret_s10 hf.out, hb1.step hb2⟩
                · have z1 : (((q).toNat : Int) == 0) = false := beq_eq_false_iff_ne.2 (by omega)
                  have z2 : ((q).toNat == 0) = false := beq_eq_false_iff_ne.2 hz
                  have hB2 : Hid (apB ps t p l (k + 1) = true) := Lib.hid (by rw [hB.out, hok.out, hx.out, decide_eq_false hz]; rfl)
                  have hL2 : Hid (apL ps t p l (k + 1) = L ++ [q]) := Lib.hid (by rw [hL.out, hx.out])
                  clear hz hB hL hx hno hO h35 h43
                  go_wp2_with fail
                  go_quiet ((go_at_call 56; refine quiet_l (hcq.out _ ?_); first | exact hS.out | exact hS.out.drewN _))
                  obtain ⟨w2, hw2⟩ : ∃ w2, wr.drewN nq = w2 := ⟨_, rfl⟩
                  have hb2 : Below w1.heap.size w1 w2 := hw2 ▸ below_drewN hbw _
                  have hvq : Hid (OByt w2 w1.heap.size v L) := Lib.hid (hw2 ▸ byt_draw hv.out)
                  rw [hw2]
                  clear hw2
                  have hbs := hb2.size
                  go_wp2_with (at_builtin; refine wpList_append_own _ rfl _ _ 78 rfl w1.heap.size 5 i0 _ 1 1 Try.underlying78 hi hz0 hz1 hz2 rfl (by decide) _ _ _ rfl (hvq.out.alloc _) ⟨w2.heap.size, 0, none⟩ 1 1 [.int .u8 ((q).toNat : Int)] rfl rfl (news8 _ _ _) (byt_one _) (by unfold maxLen; omega) (by omega) (by simp; omega) ?_)
                  intro vx wx hox hgx hnx
                  have hvx : OByt wx w1.heap.size vx (L ++ [q]) := by
                    show wx.ownsRow w1.heap.size 5 1 vx (L ++ [q]).length ((L ++ [q]).map bytU)
                    rw [byt_add _ (q : UInt8) _ rfl, List.length_append, hLk]
                    exact hox
                  have hbx : Below w1.heap.size w1 wx := hb2.grown (grown_trans (grown_below (below_a1 w2 _) _) hgx) hb2.size (fun j hj => owns_ge8 hvq.out hj)
                  replace hvx := Lib.hid hvx
                  clear hox hgx hnx
                  go_wp2
                  go_roundw
                  case rel => exact ⟨k + 1, _, rfl, by omega, by go_num, hbx, hB2.out, by rw [hL2.out]; exact hvx.out⟩
                  case measure => simp [intOf]; omega
              · have y43 : (((p[k]'hlt).toNat : Int) == 43) = false := beq_eq_false_iff_ne.2 (by omega)
                have w43 : ((p[k]'hlt).toNat == 43) = false := beq_eq_false_iff_ne.2 h43
                have hx : Hid (x = t[k]'hlt2) := Lib.hid (by rw [hO.out, if_neg h35, if_neg h43])
                by_cases hz : (t[k]'hlt2).toNat = 0
                · have z1 : (((t[k]'hlt2).toNat : Int) == 0) = true := beq_iff_eq.2 (by omega)
                  have z2 : ((t[k]'hlt2).toNat == 0) = true := beq_iff_eq.2 hz
                  have hf : Hid (r = (ByteArray.empty, 3)) := Lib.hid (hno.out (by rw [hB.out, hok.out, hx.out, decide_eq_true hz]; rfl))
                  clear hz hB hL hx hno hO h35 h43
                  go_wp2
                  go_ret2
                  exact ⟨ret_s10 hf.out, hb1.step hbw⟩
                · have z1 : (((t[k]'hlt2).toNat : Int) == 0) = false := beq_eq_false_iff_ne.2 (by omega)
                  have z2 : ((t[k]'hlt2).toNat == 0) = false := beq_eq_false_iff_ne.2 hz
                  have hB2 : Hid (apB ps t p l (k + 1) = true) := Lib.hid (by rw [hB.out, hok.out, hx.out, decide_eq_false hz]; rfl)
                  have hL2 : Hid (apL ps t p l (k + 1) = L ++ [t[k]'hlt2]) := Lib.hid (by rw [hL.out, hx.out])
                  clear hz hB hL hx hno hO h35 h43
                  have hbs := hbw.size
                  go_wp2_with (at_builtin; refine wpList_append_own _ rfl _ _ 78 rfl w1.heap.size 5 i0 _ 1 1 Try.underlying78 hi hz0 hz1 hz2 rfl (by decide) _ _ _ rfl (hv.out.alloc _) ⟨wr.heap.size, 0, none⟩ 1 1 [.int .u8 ((t[k]'hlt2).toNat : Int)] rfl rfl (news8 _ _ _) (byt_one _) (by unfold maxLen; omega) (by omega) (by simp; omega) ?_)
                  intro vx wx hox hgx hnx
                  have hvx : OByt wx w1.heap.size vx (L ++ [t[k]'hlt2]) := by
                    show wx.ownsRow w1.heap.size 5 1 vx (L ++ [t[k]'hlt2]).length ((L ++ [t[k]'hlt2]).map bytU)
                    rw [byt_add _ (t[k]'hlt2 : UInt8) _ rfl, List.length_append, hLk]
                    exact hox
                  have hbx : Below w1.heap.size w1 wx := hbw.grown (grown_trans (grown_below (below_a1 wr _) _) hgx) hbw.size (fun j hj => owns_ge8 hv.out hj)
                  replace hvx := Lib.hid hvx
                  clear hox hgx hnx
                  go_wp2
                  go_roundw
                  case rel => exact ⟨k + 1, _, rfl, by omega, by go_num, hbx, hB2.out, by rw [hL2.out]; exact hvx.out⟩
                  case measure => simp [intOf]; omega
          · have hkp : k = p.size := by omega
            subst hkp
            have hgood : Hid (r = (⟨(apL ps t p l p.size).toArray⟩, 0)) := Lib.hid (by rw [hres.out, hok]; rfl)
            have hcv := byt_conv hv
            obtain ⟨A1, c1, rfl⟩ := byt_form hv
            clear hv hok
            replace h3 := Lib.hid h3
            replace p1 := Lib.hid p1
            go_wp2
            go_ret2
            exact ⟨ret_s10 hgood.out, hb1.step hbw⟩
      · have e1 : ((p.size : Int) == (t.size : Int)) = false := beq_eq_false_iff_ne.2 (by omega)
        have e2 : ((p.size : Int) != (t.size : Int)) = true := by rw [bne, e1]; rfl
        have e3 : (p.size == t.size) = false := beq_eq_false_iff_ne.2 h3
        have hres : Hid (r = (ByteArray.empty, 6)) := Lib.hid (by rw [hr.out, apR, if_pos h0, h2, if_pos rfl, if_neg h3])
        clear hr h0 h2 h hg p0
        replace h3 := Lib.hid h3
        go_enter Try.func26, Try.ntmps26
        go_wp2_with fail
        refine hc1.out.mono ?_
        rintro e w1 ⟨rfl, hb1⟩
        go_wp2_with fail
        refine (hc2.out _).mono ?_
        rintro e w2 ⟨rfl, rfl⟩
        go_wp2
        go_ret2
        exact ⟨ret_s10 hres.out, hb1⟩
  · have hres : Hid (r = (ByteArray.empty, codeC ps t l)) := Lib.hid (by rw [hr.out, apR, if_neg h0])
    clear hr h hg
    generalize codeC ps t l = q at *
    have y1 : (q == 0) = false := beq_eq_false_iff_ne.2 h0
    have y2 : (q != 0) = true := by rw [bne, y1]; rfl
    replace h0 := Lib.hid h0
    go_enter Try.func26, Try.ntmps26
    go_wp2_with fail
    refine hc1.out.mono ?_
    rintro e w1 ⟨rfl, hb1⟩
    go_wp2
    go_ret2
    exact ⟨ret_s10 hres.out, hb1⟩
end Go.Proofs.Ytomnnhmhmehdjaa
