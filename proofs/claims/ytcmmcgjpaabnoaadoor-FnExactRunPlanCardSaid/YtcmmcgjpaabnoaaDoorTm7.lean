/- Moves of the carriage: the model's RunPlan. -/
import Derived.Test.YtcmmcgjpaabnoaaDoorTm6
namespace Go.Proofs.YtcmmcgjpaabnoaaDoor
open Go.RowKit Go.ChangeShapes Go.WideShapes Go.Deep
set_option linter.unusedVariables false
set_option linter.unusedSimpArgs false

theorem byt_at11 {w : World} {base : Nat} {v : Value} {l : List UInt8} (h : OByt w base v l) (hl : 0 < l.length) :
    ∃ g cap, v = .slice (some ⟨g, 0, none⟩) l.length cap ∧ base ≤ g ∧ g < w.heap.size ∧ (∀ i b, l[i]? = some b → w.cell? ⟨g, i, none⟩ = some (.int .u8 (b.toNat : Int))) ∧ (∀ i, w.frozen? ⟨g, i, none⟩ = false) ∧
      ∀ i b, i < l.length → OByt (w.setCell ⟨g, i, none⟩ (.int .u8 (b.toNat : Int))) base v (l.set i b) := by
  obtain ⟨hlen, ⟨rfl, hn⟩ | ⟨g, cap, cur, rfl, hb, hg, hc, hm, hs, ht⟩⟩ := h
  · omega
  · refine ⟨g, cap, rfl, hb, (Array.getElem?_eq_some_iff.1 hg).1, fun i b hi => ?_, fun i => by simp [World.frozen?, hg], fun i b hi => ?_⟩
    · have h1 : (l.map bytU)[i]? = some (bytU b) := by simp [hi]
      have hil : i < l.length := (List.getElem?_eq_some_iff.1 hi).1
      rw [← ht, List.getElem?_take] at h1
      rw [if_pos (by omega)] at h1
      simp [World.cell?, hg]
      simpa [bytU] using h1
    · refine ⟨by simp, .inr ⟨g, cap, cur.setIfInBounds i (bytU b), by simp, hb, ?_, by simpa using hc, hm, by simpa using hs, ?_⟩⟩
      · simp [World.setCell, Array.getElem?_modify, hg, bytU]
      · rw [Array.toList_setIfInBounds, List.take_set, List.map_set]
        simp only [List.length_set]
        rw [ht]
def padL (O : List UInt8) (a : Nat) : List UInt8 := O ++ List.replicate (a + 1 - O.length) 32
theorem padL_len (O : List UInt8) (a : Nat) : (padL O a).length = max O.length (a + 1) := by simp [padL]; omega
/-- The row of what is left of a plan. -/
def runF (ps : List Int) : List UInt8 → List UInt8 → Nat → Option (List UInt8)
  | [], O, _ => some O
  | [m], O, a => if m.toNat = 39 then none else if nextP ps a m < 0 then none else some O
  | m :: c :: r, O, a => if m.toNat = 39 then (if letQ c = true then (if a < 30 then (if ((padL O a).getD a 0).toNat = 32 then runF ps r ((padL O a).set a c) (a + 1) else none) else none) else none) else if nextP ps a m < 0 then none else runF ps (c :: r) O (nextP ps a m).toNat
def ruR (ps : List Int) (s : ByteArray) : ByteArray × Int := if stB ps = true then (if 200 < s.size then (ByteArray.empty, 7) else match runF ps s.data.toList [] 0 with | some O => (⟨O.toArray⟩, 0) | none => (ByteArray.empty, 7)) else (ByteArray.empty, 1)
theorem run_move {ps : List Int} {l O : List UInt8} {k a : Nat} {m : UInt8} (h : l[k]? = some m) (h39 : ¬ m.toNat = 39) : runF ps (l.drop k) O a = if nextP ps a m < 0 then none else runF ps (l.drop (k + 1)) O (nextP ps a m).toNat := by
  obtain ⟨h1, rfl⟩ := List.getElem?_eq_some_iff.1 h
  rw [List.drop_eq_getElem_cons h1]
  cases hd : l.drop (k + 1) with
  | nil => simp only [runF, if_neg h39]
  | cons c r => rw [runF, if_neg h39]
theorem run_end {ps : List Int} {l O : List UInt8} {k a : Nat} {m : UInt8} (h : l[k]? = some m) (h39 : m.toNat = 39) (hk : l.length = k + 1) : runF ps (l.drop k) O a = none := by
  obtain ⟨h1, rfl⟩ := List.getElem?_eq_some_iff.1 h
  rw [List.drop_eq_getElem_cons h1, List.drop_of_length_le (by omega), runF, if_pos h39]
theorem run_letter {ps : List Int} {l O : List UInt8} {k a : Nat} {m c : UInt8} (h : l[k]? = some m) (h39 : m.toNat = 39) (hc : l[k + 1]? = some c) : runF ps (l.drop k) O a = if letQ c = true then (if a < 30 then (if ((padL O a).getD a 0).toNat = 32 then runF ps (l.drop (k + 2)) ((padL O a).set a c) (a + 1) else none) else none) else none := by
  obtain ⟨h1, rfl⟩ := List.getElem?_eq_some_iff.1 h
  obtain ⟨h2, rfl⟩ := List.getElem?_eq_some_iff.1 hc
  rw [List.drop_eq_getElem_cons h1, List.drop_eq_getElem_cons h2, runF, if_pos h39]
def lenV11 : Value → Nat
  | .slice _ n _ => n
  | _ => 0
set_option maxRecDepth 100000 in
set_option maxHeartbeats 6400000 in
theorem ru11_specC (A : Option Addr) (n c : Nat) (ps : List Int) (s : ByteArray) (w : World) (h : Ints w A n ps) (hn : n ≤ 1048576) (hs : s.size ≤ 1048576) :
    Calls Tryd.prog 4 #[.slice A n c, .string s] w fun e w' => e = .returned (.tuple #[.string (ruR ps s).1, .int .i64 (ruR ps s).2]) ∧ Below w.heap.size w w' := by
  generalize hr : ruR ps s = r
  replace hr := Lib.hid hr.symm
  cases h1 : stB ps with
  | false =>
    have hbad : Hid (r = (ByteArray.empty, 1)) := Lib.hid (by rw [hr.out, ruR, h1]; rfl)
    have hc := Lib.hid (ok11 A n c ps h1 w h hn)
    clear h1
    go_enter Tryd.func4, Tryd.ntmps4
    go_wp2_with fail
    refine hc.out.mono ?_
    rintro e w1 ⟨rfl, hb1⟩
    go_wp2
    go_ret2
    exact ⟨ret_s10 hbad.out, hb1⟩
  | true =>
    have hc := Lib.hid (ok11 A n c ps h1 w h hn)
    by_cases h200 : 200 < s.size
    · have hbad : Hid (r = (ByteArray.empty, 7)) := Lib.hid (by rw [hr.out, ruR, h1, if_pos rfl, if_pos h200])
      have g1 : decide ((200 : Int) < (s.size : Int)) = true := decide_eq_true (by omega)
      have g2 : decide (200 < s.size) = true := decide_eq_true h200
      replace h200 := Lib.hid h200
      clear h1
      go_enter Tryd.func4, Tryd.ntmps4
      go_wp2_with fail
      refine hc.out.mono ?_
      rintro e w1 ⟨rfl, hb1⟩
      go_wp2
      go_ret2
      exact ⟨ret_s10 hbad.out, hb1⟩
    · have hres : Hid (r = match runF ps s.data.toList [] 0 with | some O => (⟨O.toArray⟩, 0) | none => (ByteArray.empty, 7)) := Lib.hid (by rw [hr.out, ruR, h1, if_pos rfl, if_neg h200])
      have g1 : decide ((200 : Int) < (s.size : Int)) = false := decide_eq_false (by omega)
      have g2 : decide (200 < s.size) = false := decide_eq_false h200
      have h200' : s.size ≤ 200 := by omega
      obtain ⟨i0, hi, hz0, hz1, hz2⟩ := info_parts Tryd.infoByt
      have hnx0 := Lib.hid (fun (a : Nat) (m : UInt8) (v : Int) (hv : nextP ps (a : Int) m = v) (hb : a ≤ 30) W hW => next11 A n c ps (a : Int) m hv ⟨by omega, by omega⟩ W hW hn)
      replace h200 := Lib.hid h200
      clear h1
      go_enter Tryd.func4, Tryd.ntmps4
      go_wp2_with fail
      refine hc.out.mono ?_
      rintro e w1 ⟨rfl, hb1⟩
      have hS1 := h.below hb1
      have hb01 := Lib.hid hb1
      clear hb1 hc
      go_wp2
      go_loopw [6, 7, 8] (fun v at' i wr => ∃ (k a : Nat) (O : List UInt8), k ≤ s.size ∧ a ≤ 30 ∧ O.length ≤ 30 ∧ i = .int .i64 (k : Int) ∧ at' = .int .i64 (a : Int) ∧ Below w1.heap.size w1 wr ∧ OByt wr w1.heap.size v O ∧ runF ps s.data.toList [] 0 = runF ps (s.data.toList.drop k) O a) (fun _ _ i _ => s.size - (intOf i).toNat)
      case atStart => exact ⟨0, 0, [], by omega, by omega, by simp, rfl, rfl, below_a1 _ _, byt_new w1, rfl⟩
      case round =>
        rename World => wr
        obtain ⟨k, a, O, hk, ha30, hO30, rfl, rfl, hbw, hO, he⟩ := hrel
        have hwz := hbw.size
        have hbe := Lib.hid (hb01.out.step hbw)
        have hO1 := Lib.hid hO
        obtain ⟨A5, c5', rfl⟩ := byt_form hO
        clear hO
        by_cases hlt : k < s.size
        · have hk0 : (0 : Int) ≤ (k : Int) := Int.natCast_nonneg _
          have hk1 : (k : Int) < (s.size : Int) := by omega
          have ha0 : (0 : Int) ≤ (a : Int) := Int.natCast_nonneg _
          have hby := byte_of hlt
          by_cases h39 : (s[k]'hlt).toNat = 39
          · have b1 : (((s[k]'hlt).toNat : Int) == 39) = true := beq_iff_eq.2 (by omega)
            have b2 : (((s[k]'hlt).toNat : Int) != 39) = false := by rw [bne, b1]; rfl
            have b3 : ((s[k]'hlt).toNat == 39) = true := beq_iff_eq.2 h39
            by_cases hend : k + 1 = s.size
            · have hbad : Hid (r = (ByteArray.empty, 7)) := Lib.hid (by rw [hres.out, he, run_end hby h39 (by show s.size = k + 1; omega)])
              have e1 : (((k : Int) + 1) == (s.size : Int)) = true := beq_iff_eq.2 (by omega)
              have e2 : (((k + 1 : Nat) : Int) == (s.size : Int)) = true := beq_iff_eq.2 (by omega)
              have e3 : (k + 1 == s.size) = true := beq_iff_eq.2 hend
              replace h39 := Lib.hid h39
              replace hby := Lib.hid hby
              replace he := Lib.hid he
              replace hend := Lib.hid hend
              go_wp2
              go_ret2
              exact ⟨ret_s10 hbad.out, hbe.out⟩
            · have hlt1 : k + 1 < s.size := by omega
              have e1 : (((k : Int) + 1) == (s.size : Int)) = false := beq_eq_false_iff_ne.2 (by omega)
              have e2 : (((k + 1 : Nat) : Int) == (s.size : Int)) = false := beq_eq_false_iff_ne.2 (by omega)
              have e3 : (k + 1 == s.size) = false := beq_eq_false_iff_ne.2 hend
              have i0' : (0 : Int) ≤ (k : Int) + 1 := by omega
              have i1' : (k : Int) + 1 < (s.size : Int) := by omega
              have i2' : ((k : Int) + 1).toNat = k + 1 := by omega
              have hst := run_letter (ps := ps) (O := O) (a := a) hby h39 (byte_of hlt1)
              rw [hst] at he
              replace h39 := Lib.hid h39
              replace hby := Lib.hid hby
              replace hend := Lib.hid hend
              clear hst
              by_cases h33 : (s[k + 1]'hlt1).toNat < 33
              · have hbad : Hid (r = (ByteArray.empty, 7)) := Lib.hid (by rw [hres.out, he, if_neg (by simp [letQ]; omega)])
                have f1 : decide (((s[k + 1]'hlt1).toNat : Int) < 33) = true := decide_eq_true (by omega)
                have f2 : decide ((s[k + 1]'hlt1).toNat < 33) = true := decide_eq_true h33
                replace he := Lib.hid he
                replace h33 := Lib.hid h33
                go_wp2
                go_ret2
                exact ⟨ret_s10 hbad.out, hbe.out⟩
              · have f1 : decide (((s[k + 1]'hlt1).toNat : Int) < 33) = false := decide_eq_false (by omega)
                have f2 : decide ((s[k + 1]'hlt1).toNat < 33) = false := decide_eq_false h33
                by_cases h126 : 126 < (s[k + 1]'hlt1).toNat
                · have hbad : Hid (r = (ByteArray.empty, 7)) := Lib.hid (by rw [hres.out, he, if_neg (by simp [letQ]; omega)])
                  have f3 : decide ((126 : Int) < ((s[k + 1]'hlt1).toNat : Int)) = true := decide_eq_true (by omega)
                  have f4 : decide (126 < (s[k + 1]'hlt1).toNat) = true := decide_eq_true h126
                  replace he := Lib.hid he
                  replace h33 := Lib.hid h33
                  replace h126 := Lib.hid h126
                  go_wp2
                  go_ret2
                  exact ⟨ret_s10 hbad.out, hbe.out⟩
                · have hlet : letQ (s[k + 1]'hlt1) = true := by simp [letQ]; omega
                  rw [if_pos hlet] at he
                  have f3 : decide ((126 : Int) < ((s[k + 1]'hlt1).toNat : Int)) = false := decide_eq_false (by omega)
                  have f4 : decide (126 < (s[k + 1]'hlt1).toNat) = false := decide_eq_false h126
                  replace h33 := Lib.hid h33
                  replace h126 := Lib.hid h126
                  by_cases h30 : a < 30
                  · rw [if_pos h30] at he
                    have f5 : decide ((30 : Int) ≤ (a : Int)) = false := decide_eq_false (by omega)
                    have f6 : decide (30 ≤ a) = false := decide_eq_false (by omega)
                    replace he := Lib.hid he
                    go_wp2
                    go_loopw [6] (fun v wr => ∃ O' : List UInt8, O.length ≤ O'.length ∧ O' = O ++ List.replicate (O'.length - O.length) 32 ∧ O'.length ≤ max O.length (a + 1) ∧ Below w1.heap.size w1 wr ∧ OByt wr w1.heap.size v O') (fun v _ => 40 - lenV11 v)
                    case atStart => exact ⟨O, Nat.le_refl _, by simp, Nat.le_max_left _ _, hbw, hO1.out⟩
                    case round =>
                      rename World => wp
                      obtain ⟨O', hl1, hO', hl2, hbp, hOp⟩ := hrel
                      have hpz := hbp.size
                      have hOp1 := Lib.hid hOp
                      obtain ⟨A6, c6', rfl⟩ := byt_form hOp
                      clear hOp
                      by_cases hle : O'.length ≤ a
                      · have hnext : Hid ((O' ++ [32]) = O ++ List.replicate ((O' ++ [(32 : UInt8)]).length - O.length) 32) := Lib.hid (by
                          rw [List.length_append, List.length_singleton, show O'.length + 1 - O.length = (O'.length - O.length) + 1 by omega, List.replicate_succ', ← List.append_assoc, ← hO'])
                        have g5 : decide ((O'.length : Int) ≤ (a : Int)) = true := decide_eq_true (by omega)
                        have g6 : decide (O'.length ≤ a) = true := decide_eq_true hle
                        have hl40 : O'.length ≤ 31 := by omega
                        replace hO' := Lib.hid hO'
                        go_wp2_with (at_builtin; refine wpList_append_own _ rfl _ _ 29 rfl w1.heap.size 5 i0 _ 1 1 Tryd.underlying29 hi hz0 hz1 hz2 rfl (by decide) _ _ _ rfl (hOp1.out.alloc _) ⟨wp.heap.size, 0, none⟩ 1 1 [.int .u8 32] rfl rfl (news8 _ _ _) (byt_one _) (by unfold maxLen; omega) (by omega) (by simp; omega) ?_)
                        intro vqq wqq hownqq hgrqq hnilqq
                        have hgqqq := grown_trans (grown_below (below_a1 wp _) _) hgrqq
                        clear hgrqq hnilqq
                        have hq : Hid (wqq.ownsRow w1.heap.size 5 1 vqq ((O' ++ [(32 : UInt8)]).length) ((O' ++ [(32 : UInt8)]).map bytU) ∧ Below w1.heap.size w1 wqq) := Lib.hid ⟨by rw [byt_add _ 32 32 rfl, List.length_append]; exact hownqq, hbp.grown hgqqq hpz (fun j hj => owns_ge8 hOp1.out hj)⟩
                        clear hownqq hgqqq hOp1
                        obtain ⟨A7, c7', rfl⟩ := byt_form (v := vqq) hq.out.1
                        have hln : Hid (O.length ≤ (O' ++ [(32 : UInt8)]).length ∧ (O' ++ [(32 : UInt8)]).length ≤ max O.length (a + 1)) := Lib.hid ⟨by simp; omega, by simp; omega⟩
                        have hms : Hid (40 - (O' ++ [(32 : UInt8)]).length < 40 - O'.length) := Lib.hid (by simp; omega)
                        generalize O' ++ [(32 : UInt8)] = O2 at *
                        go_wp2
                        go_roundw
                        case rel => exact ⟨O2, hln.out.1, hnext.out, hln.out.2, hq.out.2, hq.out.1⟩
                        case measure => exact hms.out
                      · have g5 : decide ((O'.length : Int) ≤ (a : Int)) = false := decide_eq_false (by omega)
                        have g6 : decide (O'.length ≤ a) = false := decide_eq_false hle
                        have hpad : Hid (O' = padL O a) := Lib.hid (by rw [padL, hO', show O'.length - O.length = a + 1 - O.length by omega])
                        have hal : a < O'.length := by omega
                        have hO'30 : O'.length ≤ 30 := by omega
                        have hal2 : (a : Int) < (O'.length : Int) := by omega
                        obtain ⟨b, hb⟩ : ∃ b, O'[a]? = some b := ⟨_, List.getElem?_eq_getElem hal⟩
                        obtain ⟨gg, cap, hv, hgb, hgl, hcell, hfro, hset⟩ := byt_at11 hOp1.out (by omega)
                        cases hv
                        have c0 := hcell a b hb
                        have f0 := hfro a
                        have hbD : Hid ((padL O a).getD a 0 = b) := Lib.hid (by rw [← hpad.out, List.getD, hb]; rfl)
                        have hbf := Lib.hid (hb01.out.step hbp)
                        by_cases h32 : b.toNat = 32
                        · have b4 : ((b.toNat : Int) == 32) = true := beq_iff_eq.2 (by omega)
                          have b5 : ((b.toNat : Int) != 32) = false := by rw [bne, b4]; rfl
                          have b6 : (b.toNat == 32) = true := beq_iff_eq.2 h32
                          have hnx : Hid (runF ps s.data.toList [] 0 = runF ps (s.data.toList.drop (k + 2)) (O'.set a (s[k + 1]'hlt1)) (a + 1)) := Lib.hid (by rw [he.out, hbD.out, if_pos h32, hpad.out])
                          have hset2 := Lib.hid (hset a (s[k + 1]'hlt1) hal)
                          have hbs := Lib.hid (hbp.setCell (p := ⟨gg, a, none⟩) hgb (.int .u8 ((s[k + 1]'hlt1).toNat : Int)))
                          have hsl : Hid ((O'.set a (s[k + 1]'hlt1)).length ≤ 30) := Lib.hid (by rw [List.length_set]; exact hO'30)
                          replace h32 := Lib.hid h32
                          replace hO' := Lib.hid hO'
                          replace hb := Lib.hid hb
                          clear hcell hfro hset hOp1
                          go_wp2
                          go_roundw
                          case rel => exact ⟨k + 2, a + 1, _, by omega, by omega, hsl.out, by go_num, by first | rfl | go_num, hbs.out, hset2.out, hnx.out⟩
                          case measure => simp [intOf]; omega
                        · have hbad : Hid (r = (ByteArray.empty, 7)) := Lib.hid (by rw [hres.out, he.out, hbD.out, if_neg h32])
                          have b4 : ((b.toNat : Int) == 32) = false := beq_eq_false_iff_ne.2 (by omega)
                          have b5 : ((b.toNat : Int) != 32) = true := by rw [bne, b4]; rfl
                          have b6 : (b.toNat == 32) = false := beq_eq_false_iff_ne.2 h32
                          replace h32 := Lib.hid h32
                          replace hO' := Lib.hid hO'
                          replace hb := Lib.hid hb
                          clear hcell hfro hset hOp1
                          go_wp2
                          go_ret2
                          exact ⟨ret_s10 hbad.out, hbf.out⟩
                  · have hbad : Hid (r = (ByteArray.empty, 7)) := Lib.hid (by rw [hres.out, he, if_neg h30])
                    have f5 : decide ((30 : Int) ≤ (a : Int)) = true := decide_eq_true (by omega)
                    have f6 : decide (30 ≤ a) = true := decide_eq_true (by omega)
                    replace he := Lib.hid he
                    replace h30 := Lib.hid h30
                    go_wp2
                    go_ret2
                    exact ⟨ret_s10 hbad.out, hbe.out⟩
          · have b1 : (((s[k]'hlt).toNat : Int) == 39) = false := beq_eq_false_iff_ne.2 (by omega)
            have b2 : (((s[k]'hlt).toNat : Int) != 39) = true := by rw [bne, b1]; rfl
            have b3 : ((s[k]'hlt).toNat == 39) = false := beq_eq_false_iff_ne.2 h39
            have hst := run_move (ps := ps) (O := O) (a := a) hby h39
            rw [hst] at he
            replace h39 := Lib.hid h39
            replace hby := Lib.hid hby
            clear hst
            rcases nextP_range ps (a : Int) (s[k]'hlt) with hneg | ⟨hge, hle⟩
            · have hcl := Lib.hid (hnx0.out a (s[k]'hlt) (-1) hneg ha30 wr (hS1.below hbw))
              have hbad : Hid (r = (ByteArray.empty, 7)) := Lib.hid (by rw [hres.out, he, hneg, if_pos (by decide)])
              replace he := Lib.hid he
              replace hneg := Lib.hid hneg
              go_wp2_with fail
              refine hcl.out.mono ?_
              rintro e w5 ⟨rfl, rfl⟩
              go_wp2
              go_ret2
              exact ⟨ret_s10 hbad.out, hbe.out⟩
            · obtain ⟨m, hm⟩ : ∃ m : Nat, nextP ps (a : Int) (s[k]'hlt) = (m : Int) := ⟨(nextP ps (a : Int) (s[k]'hlt)).toNat, by omega⟩
              have hm30 := next_le hm
              have hcl := Lib.hid (hnx0.out a (s[k]'hlt) (m : Int) hm ha30 wr (hS1.below hbw))
              have hnx : Hid (runF ps s.data.toList [] 0 = runF ps (s.data.toList.drop (k + 1)) O m) := Lib.hid (by rw [he, hm, if_neg (by omega), Int.toNat_natCast])
              have f1 : decide ((m : Int) < 0) = false := decide_eq_false (by omega)
              replace he := Lib.hid he
              replace hm := Lib.hid hm
              clear hge hle
              go_wp2_with fail
              refine hcl.out.mono ?_
              rintro e w5 ⟨rfl, rfl⟩
              go_wp2
              go_roundw
              case rel => exact ⟨k + 1, m, O, by omega, hm30, hO30, by go_num, rfl, hbw, hO1.out, hnx.out⟩
              case measure => simp [intOf]; omega
        · obtain rfl : k = s.size := by omega
          have gk : ¬ (s.size : Int) < (s.size : Int) := by omega
          have hgood : Hid (r = (⟨O.toArray⟩, 0)) := Lib.hid (by
            rw [List.drop_of_length_le (show s.data.toList.length ≤ s.size from Nat.le_refl _)] at he
            rw [hres.out, he]; rfl)
          have hconv := byt_conv hO1.out
          replace he := Lib.hid he
          generalize (⟨O.toArray⟩ : ByteArray) = T at *
          go_wp2
          go_ret2
          exact ⟨ret_s10 hgood.out, hbe.out⟩
end Go.Proofs.YtcmmcgjpaabnoaaDoor
