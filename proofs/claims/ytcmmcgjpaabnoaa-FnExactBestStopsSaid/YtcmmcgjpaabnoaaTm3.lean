/- Moves of the carriage: the model's least ways. -/
import Derived.Test.YtcmmcgjpaabnoaaTm2
namespace Go.Proofs.Ytcmmcgjpaabnoaa
open Go.RowKit Go.ChangeShapes Go.WideShapes Go.Deep
set_option linter.unusedVariables false
set_option linter.unusedSimpArgs false

theorem way_fuel {ps : List Int} {to : Nat} {D : Nat → Int} (h : IsFar ps to D) : ∀ (f a : Nat), a ≤ 30 → D a ≤ (f : Int) → wayL ps D f a = wayL ps D (D a).toNat a
  | 0, a, ha, hf => by have := h.pos a ha; rw [show (D a).toNat = 0 by omega]
  | f + 1, a, ha, hf => by
    have hp := h.pos a ha
    by_cases h0 : D a ≤ 0
    · rw [show (D a).toNat = 0 by omega]
      show wayL ps D (f + 1) a = []
      rw [wayL, if_pos h0]
    · obtain ⟨_, n, hn, hn30, hd⟩ := first_ok h ha (by omega)
      obtain ⟨d, hdd⟩ : ∃ d, (D a).toNat = d + 1 := ⟨(D a).toNat - 1, by omega⟩
      rw [hdd, way_step h ha (by omega) hn f, way_step h ha (by omega) hn d, way_fuel h f n hn30 (by omega), show (D n).toNat = d by omega]
/-- The way by its own length. -/
def wayX (ps : List Int) (D : Nat → Int) (a : Nat) : List UInt8 := wayL ps D (D a).toNat a
theorem wayX_end {ps : List Int} {D : Nat → Int} {a : Nat} (h : D a ≤ 0) : wayX ps D a = [] := by rw [wayX, show (D a).toNat = 0 by omega, wayL]
theorem wayX_step {ps : List Int} {to : Nat} {D : Nat → Int} (h : IsFar ps to D) {a n : Nat} (ha : a ≤ 30) (hp : 0 < D a) (hn : nextP ps a (mvB (firstK ps D a)) = (n : Int)) : wayX ps D a = mvB (firstK ps D a) :: wayX ps D n ∧ D a = D n + 1 := by
  obtain ⟨_, m, hm, hm30, hd⟩ := first_ok h ha hp
  obtain rfl : m = n := by have := hm.symm.trans hn; omega
  refine ⟨?_, hd⟩
  obtain ⟨d, hdd⟩ : ∃ d, (D a).toNat = d + 1 := ⟨(D a).toNat - 1, by omega⟩
  rw [wayX, hdd, way_step h ha hp hn d, wayX, show (D m).toNat = d by omega]
def goodK (ps : List Int) (D : Nat → Int) (a j : Nat) : Prop := 0 ≤ nextP ps a (mvB j) ∧ D (nextP ps a (mvB j)).toNat + 1 = D a
theorem first_is {ps : List Int} {D : Nat → Int} {a k : Nat} (hk : k < 3) (hno : ∀ j, j < k → ¬ goodK ps D a j) (hg : goodK ps D a k) : firstK ps D a = k := by
  unfold firstK
  match k, hk with
  | 0, _ => exact if_pos hg
  | 1, _ =>
    have h0 := hno 0 (by omega)
    unfold goodK at h0
    rw [if_neg h0]
    exact if_pos hg
  | 2, _ =>
    have h0 := hno 0 (by omega)
    have h1 := hno 1 (by omega)
    unfold goodK at h0 h1
    rw [if_neg h0, if_neg h1]
theorem way_farP {ps : List Int} {to : Nat} {D : Nat → Int} (hto : to ≤ 30) (h : IsFar ps to D) {a : Nat} (ha : a ≤ 30) : wayX ps D a = wayP ps to a := by
  have hF := h.far hto
  have hag : ∀ f b, b ≤ 30 → wayL ps D f b = wayL ps (farP ps to) f b := by
    intro f
    induction f with
    | zero => intro b _; rfl
    | succ f ih =>
      intro b hb
      have hk : firstK ps D b = firstK ps (farP ps to) b := by
        have hg : ∀ j, (0 ≤ nextP ps b (mvB j) ∧ D (nextP ps b (mvB j)).toNat + 1 = D b) ↔ (0 ≤ nextP ps b (mvB j) ∧ farP ps to (nextP ps b (mvB j)).toNat + 1 = farP ps to b) := fun j => by
          refine and_congr_right fun hj => ?_
          have h30 : (nextP ps b (mvB j)).toNat ≤ 30 := by rcases nextP_range ps b (mvB j) with h1 | h1 <;> omega
          rw [h.eq h30, h.eq hb]
        unfold firstK
        simp only [hg]
      rw [wayL, wayL, h.eq hb, hk]
      split
      · rfl
      · rename_i h0
        obtain ⟨_, n, hn, hn30, _⟩ := first_ok hF hb (by omega)
        rw [hn, Int.toNat_natCast, ih n hn30]
  have h30 := far_30 hto hF.zero hF.step ha
  rw [wayP, wayX, hag _ a ha, h.eq ha, ← way_fuel hF 31 a ha (by omega)]
theorem wayX_len {ps : List Int} {to : Nat} {D : Nat → Int} (h : IsFar ps to D) {a : Nat} (ha : a ≤ 30) : ((wayX ps D a).length : Int) = D a := way_len h _ a ha (by have := h.pos a ha; omega)
set_option maxRecDepth 100000 in
set_option maxHeartbeats 6400000 in
theorem moves11 (A : Option Addr) (n c : Nat) (ps : List Int) (to g : Nat) (L : List Int) (a : Nat) (ha : a ≤ 30) (hto : to ≤ 30) (hF : IsFar ps to (fun a => L.getD a 0)) (w : World) (h : Ints w A n ps) (hn : n ≤ 1048576) (hg : Ints w (some ⟨g, 0, none⟩) 31 L) :
    Calls Try.prog 39 #[.slice A n c, .slice (some ⟨g, 0, none⟩) 31 31, .int .i64 (a : Int)] w fun e w' => e = .returned (.string ⟨(wayP ps to a).toArray⟩) ∧ Below w.heap.size w w' := by
  obtain ⟨i0, hi, hz0, hz1, hz2⟩ := info_parts Try.infoByt
  have hres := Lib.hid (way_farP hto hF ha)
  have h30 := Lib.hid (fun (b : Nat) (hb : b ≤ 30) => (far_30 hto hF.zero hF.step hb : L.getD b 0 ≤ 30))
  have hlen := Lib.hid (wayX_len hF ha)
  generalize hD : (fun a => L.getD a 0) = D at *
  have hDL : ∀ b, D b = L.getD b 0 := fun b => by rw [← hD]
  have hDh := Lib.hid hDL
  have hnx0 := Lib.hid (fun (b k : Nat) (v : Int) (hv : nextP ps (b : Int) (mvB k) = v) (hb : b ≤ 30) W hW => next11 A n c ps (b : Int) (mvB k) hv ⟨by omega, by omega⟩ W hW hn)
  have hF0 := Lib.hid hF
  clear hF hD hDL
  go_enter Try.func39, Try.ntmps39
  go_wp2
  go_loopw [7, 8, 9, 10] (fun v at' _ _ wr => ∃ (b : Nat) (O : List UInt8), b ≤ 30 ∧ at' = .int .i64 (b : Int) ∧ Below w.heap.size w wr ∧ OByt wr w.heap.size v O ∧ O ++ wayX ps D b = wayX ps D a) (fun _ at' _ _ _ => (L.getD (intOf at').toNat 0).toNat)
  case atStart => exact ⟨a, [], ha, rfl, below_a1 _ _, byt_new w, by simp⟩
  case round =>
    rename World => wo
    obtain ⟨b, O, hb, rfl, hbo, hO, hw⟩ := hrel
    have hgo := hg.below hbo
    have hb31 : b < 31 := by omega
    obtain ⟨_, _, y, hAA, _, hy, cb⟩ := int_at hgo hb31
    cases hAA
    rw [Nat.zero_add] at cb
    have hb0 : (0 : Int) ≤ (b : Int) := Int.natCast_nonneg _
    have hb1 : (b : Int) < 31 := by omega
    have hyD : D b = y := by rw [hDh.out, getD_ofI hy.out]
    have hyp := hF0.out.pos b hb
    have hy30 := h30.out b hb
    rw [getD_ofI hy.out] at hy30
    rw [hyD] at hyp
    by_cases h0 : 0 < y
    · replace hw := Lib.hid hw
      have hOh := Lib.hid hO
      have hfok := Lib.hid (first_ok hF0.out hb (by rw [hyD]; exact h0))
      have hlb : Hid (O.length ≤ 31) := Lib.hid (by
        have h1 := congrArg List.length hw.out
        rw [List.length_append] at h1
        have h2 := hlen.out
        have h3 := h30.out a ha
        have h4 := hDh.out a
        omega)
      obtain ⟨A5, c5', rfl⟩ := byt_form hO
      clear hO
      go_wp2
      go_loopw [7, 8, 9, 10] (fun v' at' kk _ wr => v' = .slice A5 O.length c5' ∧ at' = .int .i64 (b : Int) ∧ Below w.heap.size w wr ∧ OByt wr w.heap.size (.slice A5 O.length c5') O ∧ ∃ k : Nat, k ≤ 3 ∧ kk = .int .i64 (k : Int) ∧ ∀ j, j < k → ¬ goodK ps D b j) (fun _ _ kk _ _ => 3 - (intOf kk).toNat)
      case atStart => exact ⟨rfl, rfl, hbo, hOh.out, 0, by omega, rfl, fun j hj => absurd hj (by omega)⟩
      case round =>
        clear hbo hOh
        rename World => wk
        obtain ⟨rfl, rfl, hbk, hOk, k, hk, rfl, hno⟩ := hrel
        have hgk := hg.below hbk
        obtain ⟨_, _, y', hAA, _, hy', cb⟩ := int_at hgk hb31
        cases hAA
        rw [Nat.zero_add] at cb
        obtain rfl : y = y' := Option.some.inj (hy.out.symm.trans hy'.out)
        clear hy'
        by_cases hk3 : k < 3
        · have hk0 : (0 : Int) ≤ (k : Int) := Int.natCast_nonneg _
          have hk1 : (k : Int) < 3 := by omega
          have hmv := mvB_at k hk3
          rw [bAt_eq (show k < (⟨#[35, 60, 62]⟩ : ByteArray).size from hk3)] at hmv
          have hwz := hbk.size
          have hS := h.below hbk
          rcases nextP_range ps (b : Int) (mvB k) with hneg | ⟨hge, hle⟩
          · have hcl := Lib.hid (hnx0.out b k (-1) hneg hb _ hS)
            have hno2 : Hid (∀ j, j < k + 1 → ¬ goodK ps D b j) := Lib.hid (fun j hj => by
              by_cases hjk : j = k
              · subst hjk; intro hg2; rw [goodK, hneg] at hg2; omega
              · exact hno j (by omega))
            replace hneg := Lib.hid hneg
            replace hno := Lib.hid hno
            replace hOk := Lib.hid hOk
            go_wp2_with fail
            refine hcl.out.mono ?_
            rintro e w5 ⟨rfl, rfl⟩
            go_wp2_with fail
            go_quiet (fail)
            have hOq := Lib.hid (own_keep10 hOk.out (below_drewN (Below.refl _ wk) nq))
            have hbq := Lib.hid (below_drewN hbk nq)
            clear hOk cb hS hgk
            generalize wk.drewN nq = w6 at *
            go_wp2
            go_roundw
            case rel => exact ⟨rfl, rfl, hbq.out, hOq.out, k + 1, by omega, by go_num, hno2.out⟩
            case measure => simp [intOf]; omega
          · obtain ⟨m, hm⟩ : ∃ m : Nat, nextP ps (b : Int) (mvB k) = (m : Int) := ⟨(nextP ps (b : Int) (mvB k)).toNat, by omega⟩
            have hm30 := next_le hm
            have hcl := Lib.hid (hnx0.out b k (m : Int) hm hb _ hS)
            obtain ⟨_, _, x, hAA, _, hx, cm⟩ := int_at hgk (show m < 31 by omega)
            cases hAA
            rw [Nat.zero_add] at cm
            have hm0 : (0 : Int) ≤ (m : Int) := Int.natCast_nonneg _
            have hm1 : (m : Int) < 31 := by omega
            have hxD : D m = x := by rw [hDh.out, getD_ofI hx.out]
            have hxp := hF0.out.pos m hm30
            have hx30 := h30.out m hm30
            rw [getD_ofI hx.out] at hx30
            rw [hxD] at hxp
            have hwx : IntKind.i64.wrap (x + 1) = x + 1 := IntWalk.i64_in _ (by omega)
            have hgd : Hid (goodK ps D b k ↔ x + 1 = y) := Lib.hid (by
              unfold goodK
              rw [hm, Int.toNat_natCast, hxD, hyD]
              exact ⟨fun h => h.2, fun h => ⟨by omega, h⟩⟩)
            have hmm := Lib.hid hm
            have hLm := Lib.hid (getD_ofI hx.out)
            have hLb := Lib.hid (getD_ofI hy.out)
            clear hm hge hle
            by_cases hxy : x + 1 = y
            · have hfk := first_is hk3 hno (hgd.out.2 hxy)
              obtain ⟨hst, hDD⟩ := wayX_step (n := m) hF0.out hb (by rw [hyD]; exact h0) (by rw [hfk]; exact hmm.out)
              rw [hfk] at hst
              have hw2 : Hid ((O ++ [mvB k]) ++ wayX ps D m = wayX ps D a) := Lib.hid (by rw [← hw.out, hst, List.append_assoc]; rfl)
              have g1 : (x + 1 == y) = true := beq_iff_eq.2 hxy
              have g2 : decide (x + 1 = y) = true := decide_eq_true hxy
              have hdec : Hid ((L.getD m 0).toNat < (L.getD b 0).toNat) := Lib.hid (by rw [hLm.out, hLb.out]; omega)
              replace hfk := Lib.hid hfk
              replace hst := Lib.hid hst
              replace hDD := Lib.hid hDD
              replace hxy := Lib.hid hxy
              replace hno := Lib.hid hno
              replace hOk := Lib.hid hOk
              replace hxD := Lib.hid hxD
              replace hyD := Lib.hid hyD
              go_wp2_with fail
              refine hcl.out.mono ?_
              rintro e w5 ⟨rfl, rfl⟩
              go_wp2_with fail
              go_quiet (fail)
              have hOq := Lib.hid (own_keep10 hOk.out (below_drewN (Below.refl _ wk) nq))
              have hbq := below_drewN hbk nq
              clear hOk cb cm hS hgk
              generalize wk.drewN nq = w6 at *
              have hz6 := hbq.size
              have hlb2 := hlb.out
              go_wp2_with (at_builtin; refine wpList_append_own _ rfl _ _ 58 rfl w.heap.size 5 i0 _ 1 1 Try.underlying58 hi hz0 hz1 hz2 rfl (by decide) _ _ _ rfl (hOq.out.alloc _) ⟨w6.heap.size, 0, none⟩ 1 1 [.int .u8 ((mvB k).toNat : Int)] rfl rfl (news8 _ _ _) (byt_one _) (by unfold maxLen; omega) (by omega) (by simp; omega) ?_)
              intro vqq wqq hownqq hgrqq hnilqq
              have hgqqq := grown_trans (grown_below (below_a1 w6 _) _) hgrqq
              clear hgrqq hnilqq
              have hq : Hid (wqq.ownsRow w.heap.size 5 1 vqq ((O ++ [mvB k]).length) ((O ++ [mvB k]).map bytU) ∧ Below w.heap.size w wqq) := Lib.hid ⟨by rw [byt_add _ (mvB k) _ rfl, List.length_append]; exact hownqq, hbq.grown hgqqq hz6 (fun j hj => owns_ge8 hOq.out hj)⟩
              clear hownqq hgqqq hOq hbq hlb2
              go_wp2
              go_roundw
              case rel => exact ⟨m, O ++ [mvB k], hm30, rfl, hq.out.2, hq.out.1, hw2.out⟩
              case measure => exact hdec.out
            · have hno2 : Hid (∀ j, j < k + 1 → ¬ goodK ps D b j) := Lib.hid (fun j hj => by
                by_cases hjk : j = k
                · subst hjk; rw [hgd.out]; exact hxy
                · exact hno j (by omega))
              have g1 : (x + 1 == y) = false := beq_eq_false_iff_ne.2 hxy
              have g2 : decide (x + 1 = y) = false := decide_eq_false hxy
              replace hxy := Lib.hid hxy
              replace hno := Lib.hid hno
              replace hOk := Lib.hid hOk
              replace hxD := Lib.hid hxD
              replace hyD := Lib.hid hyD
              go_wp2_with fail
              refine hcl.out.mono ?_
              rintro e w5 ⟨rfl, rfl⟩
              go_wp2_with fail
              go_quiet (fail)
              have hOq := Lib.hid (own_keep10 hOk.out (below_drewN (Below.refl _ wk) nq))
              have hbq := Lib.hid (below_drewN hbk nq)
              clear hOk cb cm hS hgk
              generalize wk.drewN nq = w6 at *
              go_wp2
              go_roundw
              case rel => exact ⟨rfl, rfl, hbq.out, hOq.out, k + 1, by omega, by go_num, hno2.out⟩
              case measure => simp [intOf]; omega
        · exfalso
          obtain rfl : k = 3 := by omega
          obtain ⟨hk3', m, hm, hm30, hd⟩ := hfok.out
          exact hno _ hk3' ⟨by omega, by rw [hm, Int.toNat_natCast]; omega⟩
    · have hfin : Hid ((⟨O.toArray⟩ : ByteArray) = ⟨(wayP ps to a).toArray⟩) := Lib.hid (by
        have h1 : wayX ps D b = [] := wayX_end (by rw [hyD]; omega)
        rw [h1, List.append_nil] at hw
        rw [← hres.out, ← hw])
      have hconv := byt_conv hO
      obtain ⟨A5, c5', rfl⟩ := byt_form hO
      rw [hfin.out] at hconv
      have g1 : decide (0 < y) = false := decide_eq_false h0
      clear hO hw
      go_wp2
      go_ret
      exact ⟨rfl, hbo⟩
end Go.Proofs.Ytcmmcgjpaabnoaa
