/- Corrections: the model's rules. -/
import Derived.Test.YtomnnhmhmehdjaaCo3
import Derived.Test.YtomnnhmhmehdjaaOverS
import Derived.Deep.QuietTactic
import Derived.BigQuiet
namespace Go.Proofs.Ytomnnhmhmehdjaa
open Go.RowKit Go.ChangeShapes Go.WideShapes Go.Deep
set_option linter.unusedVariables false
set_option linter.unusedSimpArgs false

def letC (s : ByteArray) : Bool := decide (s.size = 1) && (decide (33 ≤ (bAt s 0).toNat) && decide ((bAt s 0).toNat ≤ 126))
theorem letC_size {s : ByteArray} (h : letC s = true) : s.size = 1 := by simp only [letC, Bool.and_eq_true, decide_eq_true_eq] at h; exact h.1
theorem let12 (s : ByteArray) {v : Bool} (hv : letC s = v) (w : World) (hs : s.size ≤ maxLen) :
    Calls Try.prog 100 #[.string s] w fun e w' => e = .returned (.bool v) ∧ w = w' := by
  unfold maxLen at hs
  by_cases h1 : s.size = 1
  · have h1' : ((s.size : Int) == 1) = true := beq_iff_eq.2 (by omega)
    have hp : 0 < s.size := by omega
    have hres : Hid (v = (decide (33 ≤ (s[0]'hp).toNat) && decide ((s[0]'hp).toNat ≤ 126))) := Lib.hid (by rw [← hv, letC, decide_eq_true h1, bAt_eq hp]; rfl)
    by_cases h33 : 33 ≤ (s[0]'hp).toNat
    · have g1 : decide ((32 : Int) < ((s[0]'hp).toNat : Int)) = true := decide_eq_true (by omega)
      have hres2 : Hid (v = decide (((s[0]'hp).toNat : Int) < 127)) := Lib.hid (by
        rw [hres.out, decide_eq_true h33, Bool.true_and]
        apply decide_eq_decide.2
        omega)
      clear h1 hv
      go_enter Try.func100, Try.ntmps100
      go_wp2
      go_ret
      exact ⟨ret_bo hres2.out.symm, rfl⟩
    · have g1 : decide ((32 : Int) < ((s[0]'hp).toNat : Int)) = false := decide_eq_false (by omega)
      have hres2 : Hid (v = false) := Lib.hid (by rw [hres.out, decide_eq_false h33, Bool.false_and])
      clear h1 hv
      go_enter Try.func100, Try.ntmps100
      go_wp2
      go_ret
      exact ⟨ret_bo hres2.out.symm, rfl⟩
  · have hres : Hid (v = false) := Lib.hid (by rw [← hv, letC, decide_eq_false h1, Bool.false_and])
    have h1' : ((s.size : Int) == 1) = false := beq_eq_false_iff_ne.2 (by omega)
    clear h1 hv
    go_enter Try.func100, Try.ntmps100
    go_wp2
    go_ret
    exact ⟨ret_bo hres.out.symm, rfl⟩

def sameB (a b : ByteArray) : Bool := a.toList == b.toList
theorem sameB_ne {a b : ByteArray} : (a.toList != b.toList) = !sameB a b := rfl
theorem sameB_eq {a b : ByteArray} : (a.toList == b.toList) = sameB a b := rfl
def oneB (x : OverD) : Bool := letC x.under && (letC x.top && (letC x.seen && (!sameB x.under x.seen && (!sameB x.top x.seen && !sameB x.under x.top))))
def dupB (a b : OverD) : Bool := sameB a.under b.under && sameB a.top b.top
def okFrom : List OverD → List OverD → Bool
  | _, [] => true
  | d, x :: r => oneB x && (d.all (fun y => !dupB y x) && okFrom (d ++ [x]) r)
def ovB (ps : List OverD) : Bool := okFrom [] ps && decide (ps.length ≤ 20)
theorem okFrom_at {ps : List OverD} {k : Nat} {x : OverD} (h : ps[k]? = some x) : okFrom (ps.take k) (ps.drop k) = (oneB x && ((ps.take k).all (fun y => !dupB y x) && okFrom (ps.take (k + 1)) (ps.drop (k + 1)))) := by
  obtain ⟨h1, rfl⟩ := List.getElem?_eq_some_iff.1 h
  rw [List.drop_eq_getElem_cons h1, okFrom, take8 h]
theorem okFrom_end {ps : List OverD} {k : Nat} (h : ps.length ≤ k) : okFrom (ps.take k) (ps.drop k) = true := by
  rw [List.drop_of_length_le h, okFrom]
theorem okFrom_one : ∀ {ps d : List OverD}, okFrom d ps = true → ∀ x ∈ ps, oneB x = true
  | [], _, _, x, hx => absurd hx List.not_mem_nil
  | y :: r, d, h, x, hx => by
    rw [okFrom, Bool.and_eq_true, Bool.and_eq_true] at h
    rcases List.mem_cons.1 hx with rfl | hx
    · exact h.1
    · exact okFrom_one h.2.2 x hx
theorem ovB_one {ps : List OverD} (h : ovB ps = true) {x : OverD} (hx : x ∈ ps) : x.under.size = 1 ∧ x.top.size = 1 ∧ x.seen.size = 1 := by
  rw [ovB, Bool.and_eq_true] at h
  have := okFrom_one h.1 x hx
  simp only [oneB, Bool.and_eq_true] at this
  exact ⟨letC_size this.1, letC_size this.2.1, letC_size this.2.2.1⟩
set_option maxHeartbeats 1600000 in
theorem one12 (x : OverD) {v : Bool} (hv : oneB x = v) (hg : x.good) (b o : Nat) (w : World) (hb : b < w.heap.size) (c0 : w.cell? ⟨b, o, none⟩ = some (.string x.under)) (c1 : w.cell? ⟨b, o + 1, none⟩ = some (.string x.top)) (c2 : w.cell? ⟨b, o + 2, none⟩ = some (.string x.seen)) :
    Calls Try.prog 84 #[.pointer (some ⟨b, o, none⟩)] w fun e w' => e = .returned (.bool v) ∧ Below w.heap.size w w' := by
  obtain ⟨g0, g1, g2⟩ := hg
  obtain ⟨U, T, S⟩ := x
  simp only at *
  cases q0 : letC U with
  | false =>
    have hr : Hid (v = false) := Lib.hid (by rw [← hv]; simp only [oneB, q0]; rfl)
    have Q0 := Lib.hid q0
    clear hv q0
    go_enter Try.func84, Try.ntmps84
    go_wp2_with fail
    go_quiet ((go_at_call_of 100 (Value.string U); refine quiet_l (let12 U (v := false) ?_ _ ?_); exact Q0.out; exact g0))
    go_wp2
    go_ret
    exact ⟨ret_bo hr.out.symm, below_drewN (Below.refl _ _) _⟩
  | true =>
    cases q1 : letC T with
    | false =>
      have hr : Hid (v = false) := Lib.hid (by rw [← hv]; simp only [oneB, q0, q1]; rfl)
      have Q0 := Lib.hid q0
      have Q1 := Lib.hid q1
      clear hv q0 q1
      go_enter Try.func84, Try.ntmps84
      go_wp2_with fail
      go_quiet ((first | (go_at_call_of 100 (Value.string U); refine quiet_l (let12 U (v := true) ?_ _ ?_); exact Q0.out; exact g0) | (go_at_call_of 100 (Value.string T); refine quiet_l (let12 T (v := false) ?_ _ ?_); exact Q1.out; exact g1)))
      go_wp2
      go_ret
      exact ⟨ret_bo hr.out.symm, below_drewN (Below.refl _ _) _⟩
    | true =>
      cases q2 : letC S with
      | false =>
        have hr : Hid (v = false) := Lib.hid (by rw [← hv]; simp only [oneB, q0, q1, q2]; rfl)
        have Q0 := Lib.hid q0
        have Q1 := Lib.hid q1
        have Q2 := Lib.hid q2
        clear hv q0 q1 q2
        go_enter Try.func84, Try.ntmps84
        go_wp2_with fail
        go_quiet ((first | (go_at_call_of 100 (Value.string U); refine quiet_l (let12 U (v := true) ?_ _ ?_); exact Q0.out; exact g0) | (go_at_call_of 100 (Value.string T); refine quiet_l (let12 T (v := true) ?_ _ ?_); exact Q1.out; exact g1) | (go_at_call_of 100 (Value.string S); refine quiet_l (let12 S (v := false) ?_ _ ?_); exact Q2.out; exact g2)))
        go_wp2
        go_ret
        exact ⟨ret_bo hr.out.symm, below_drewN (Below.refl _ _) _⟩
      | true =>
        cases q3 : sameB U S with
        | true =>
          have hr : Hid (v = false) := Lib.hid (by rw [← hv]; simp only [oneB, q0, q1, q2, q3]; rfl)
          have Q0 := Lib.hid q0
          have Q1 := Lib.hid q1
          have Q2 := Lib.hid q2
          have e3 : (U.toList == S.toList) = true := q3
          have n3 : (U.toList != S.toList) = false := by rw [bne, e3]; rfl
          clear hv q0 q1 q2 q3
          go_enter Try.func84, Try.ntmps84
          go_wp2_with fail
          go_quiet ((first | (go_at_call_of 100 (Value.string U); refine quiet_l (let12 U (v := true) ?_ _ ?_); exact Q0.out; exact g0) | (go_at_call_of 100 (Value.string T); refine quiet_l (let12 T (v := true) ?_ _ ?_); exact Q1.out; exact g1) | (go_at_call_of 100 (Value.string S); refine quiet_l (let12 S (v := true) ?_ _ ?_); exact Q2.out; exact g2)))
          go_wp2
          go_ret
          exact ⟨ret_bo hr.out.symm, below_drewN (Below.refl _ _) _⟩
        | false =>
          cases q4 : sameB T S with
          | true =>
            have hr : Hid (v = false) := Lib.hid (by rw [← hv]; simp only [oneB, q0, q1, q2, q3, q4]; rfl)
            have Q0 := Lib.hid q0
            have Q1 := Lib.hid q1
            have Q2 := Lib.hid q2
            have e3 : (U.toList == S.toList) = false := q3
            have n3 : (U.toList != S.toList) = true := by rw [bne, e3]; rfl
            have e4 : (T.toList == S.toList) = true := q4
            have n4 : (T.toList != S.toList) = false := by rw [bne, e4]; rfl
            clear hv q0 q1 q2 q3 q4
            go_enter Try.func84, Try.ntmps84
            go_wp2_with fail
            go_quiet ((first | (go_at_call_of 100 (Value.string U); refine quiet_l (let12 U (v := true) ?_ _ ?_); exact Q0.out; exact g0) | (go_at_call_of 100 (Value.string T); refine quiet_l (let12 T (v := true) ?_ _ ?_); exact Q1.out; exact g1) | (go_at_call_of 100 (Value.string S); refine quiet_l (let12 S (v := true) ?_ _ ?_); exact Q2.out; exact g2)))
            go_wp2
            go_ret
            exact ⟨ret_bo hr.out.symm, below_drewN (Below.refl _ _) _⟩
          | false =>
            cases q5 : sameB U T with
            | true =>
              have hr : Hid (v = false) := Lib.hid (by rw [← hv]; simp only [oneB, q0, q1, q2, q3, q4, q5]; rfl)
              have Q0 := Lib.hid q0
              have Q1 := Lib.hid q1
              have Q2 := Lib.hid q2
              have e3 : (U.toList == S.toList) = false := q3
              have n3 : (U.toList != S.toList) = true := by rw [bne, e3]; rfl
              have e4 : (T.toList == S.toList) = false := q4
              have n4 : (T.toList != S.toList) = true := by rw [bne, e4]; rfl
              have e5 : (U.toList == T.toList) = true := q5
              have n5 : (U.toList != T.toList) = false := by rw [bne, e5]; rfl
              clear hv q0 q1 q2 q3 q4 q5
              go_enter Try.func84, Try.ntmps84
              go_wp2_with fail
              go_quiet ((first | (go_at_call_of 100 (Value.string U); refine quiet_l (let12 U (v := true) ?_ _ ?_); exact Q0.out; exact g0) | (go_at_call_of 100 (Value.string T); refine quiet_l (let12 T (v := true) ?_ _ ?_); exact Q1.out; exact g1) | (go_at_call_of 100 (Value.string S); refine quiet_l (let12 S (v := true) ?_ _ ?_); exact Q2.out; exact g2)))
              go_wp2
              go_ret
              exact ⟨ret_bo hr.out.symm, below_drewN (Below.refl _ _) _⟩
            | false =>
              have hr : Hid (v = true) := Lib.hid (by rw [← hv]; simp only [oneB, q0, q1, q2, q3, q4, q5]; rfl)
              have Q0 := Lib.hid q0
              have Q1 := Lib.hid q1
              have Q2 := Lib.hid q2
              have e3 : (U.toList == S.toList) = false := q3
              have n3 : (U.toList != S.toList) = true := by rw [bne, e3]; rfl
              have e4 : (T.toList == S.toList) = false := q4
              have n4 : (T.toList != S.toList) = true := by rw [bne, e4]; rfl
              have e5 : (U.toList == T.toList) = false := q5
              have n5 : (U.toList != T.toList) = true := by rw [bne, e5]; rfl
              clear hv q0 q1 q2 q3 q4 q5
              go_enter Try.func84, Try.ntmps84
              go_wp2_with fail
              go_quiet ((first | (go_at_call_of 100 (Value.string U); refine quiet_l (let12 U (v := true) ?_ _ ?_); exact Q0.out; exact g0) | (go_at_call_of 100 (Value.string T); refine quiet_l (let12 T (v := true) ?_ _ ?_); exact Q1.out; exact g1) | (go_at_call_of 100 (Value.string S); refine quiet_l (let12 S (v := true) ?_ _ ?_); exact Q2.out; exact g2)))
              go_wp2
              go_ret
              exact ⟨ret_bo hr.out.symm, below_drewN (Below.refl _ _) _⟩
set_option maxHeartbeats 2400000 in
theorem ok12 (A : Option Addr) (n c : Nat) (ps : List OverD) {v : Bool} (hv : ovB ps = v) (w : World) (h : Overs w A n ps) (hn : n ≤ 1048576) (hg : ∀ x ∈ ps, x.good) :
    Calls Try.prog 53 #[.slice A n c] w fun e w' => e = .returned (.bool v) ∧ Below w.heap.size w w' := by
  have hl0 := h.1
  have hres : Hid (v = (okFrom [] ps && decide ((n : Int) ≤ 20))) := Lib.hid (by
    rw [← hv, ovB, hl0]
    congr 1
    exact decide_eq_decide.2 (by omega))
  replace hl0 := Lib.hid hl0
  have hgg := Lib.hid hg
  clear hv hg
  go_enter Try.func53, Try.ntmps53
  go_wp2
  go_loopw [3, 4] (fun i _ wr => ∃ k : Nat, k ≤ n ∧ i = .int .i64 k ∧ Below w.heap.size w wr ∧ okFrom [] ps = okFrom (ps.take k) (ps.drop k)) (fun i _ _ => n - (intOf i).toNat)
  case atStart => exact ⟨0, by omega, rfl, Below.refl _ _, rfl⟩
  case round =>
    rename World => wr
    obtain ⟨k, hk, rfl, hbw, he⟩ := hrel
    replace he := Lib.hid he
    by_cases hlt : k < n
    · obtain ⟨b, off, x, rfl, hb, hx, c0, c1, c2⟩ := over_at (h.below hbw) hlt
      have hk0 : (0 : Int) ≤ (k : Int) := Int.natCast_nonneg _
      have hk1 : (k : Int) < (n : Int) := by omega
      have hst := Lib.hid (okFrom_at hx.out)
      have hgx := Lib.hid (hgg.out x (List.mem_of_getElem? hx.out))
      cases h1 : oneB x with
      | false =>
        have hr : Hid (v = false) := Lib.hid (by rw [hres.out, he.out, hst.out, h1]; rfl)
        have hc1 := Lib.hid (one12 x h1 hgx.out b (off + k * 3) wr hb c0 c1 c2)
        clear h1 hst
        go_wp2_with fail
        refine hc1.out.mono ?_
        rintro e w1 ⟨rfl, hb1⟩
        go_wp2
        go_ret
        exact ⟨ret_bo hr.out.symm, hbw.step hb1⟩
      | true =>
        have hc1 := Lib.hid (one12 x h1 hgx.out b (off + k * 3) wr hb c0 c1 c2)
        have hst2 : Hid (okFrom (ps.take k) (ps.drop k) = ((ps.take k).all (fun y => !dupB y x) && okFrom (ps.take (k + 1)) (ps.drop (k + 1)))) := Lib.hid (by rw [hst.out, h1, Bool.true_and])
        have hw1 : IntKind.i64.wrap ((k : Int) + 1) = ((k + 1 : Nat) : Int) := by rw [IntWalk.i64_in _ (by omega)]; omega
        have hlk := Lib.hid (show (ps.take k).length = k by rw [List.length_take, hl0.out]; omega)
        clear h1 hst
        go_wp2_with fail
        refine hc1.out.mono ?_
        rintro e w1 ⟨rfl, hb1⟩
        have hbx : Below w.heap.size w w1 := hbw.step hb1
        have hS := h.below hbx
        clear hb1 hc1
        go_wp2
        go_loopw [4] (fun j wi => ∃ q : Nat, q ≤ k ∧ j = .int .i64 (q : Int) ∧ Below w.heap.size w wi ∧ (ps.take k).all (fun y => !dupB y x) = ((ps.take k).drop q).all (fun y => !dupB y x)) (fun j _ => k - (intOf j).toNat)
        case atStart => exact ⟨0, by omega, rfl, hbx, rfl⟩
        case round =>
          rename World => wi
          obtain ⟨q, hq, rfl, hbi, hall⟩ := hrel
          replace hall := Lib.hid hall
          by_cases hqk : q < k
          · have hSi := h.below hbi
            obtain ⟨b2, off2, y, hA2, hb2, hy, d0, d1, d2⟩ := over_at hSi (show q < n by omega)
            cases hA2
            obtain ⟨b3, off3, x3, hA3, hb3, hx3, f0, f1, f2⟩ := over_at hSi hlt
            cases hA3
            obtain rfl : x3 = x := Option.some.inj (hx3.out.symm.trans hx.out)
            have hq0 : (0 : Int) ≤ (q : Int) := Int.natCast_nonneg _
            have hq1 : (q : Int) < (n : Int) := by omega
            have hq2 : (q : Int) < (k : Int) := by omega
            have hyk : Hid ((ps.take k)[q]? = some y) := Lib.hid (by rw [List.getElem?_take, if_pos hqk]; exact hy.out)
            have hsi := Lib.hid (all8_drop (p := fun y => !dupB y x3) hyk.out)
            have hwq : IntKind.i64.wrap ((q : Int) + 1) = ((q + 1 : Nat) : Int) := by rw [IntWalk.i64_in _ (by omega)]; omega
            obtain ⟨U, T, S⟩ := x3
            obtain ⟨U2, T2, S2⟩ := y
            simp only at d0 d1 d2 f0 f1 f2
            clear c0 c1 c2
            cases e1 : sameB U2 U with
            | false =>
              have g1 : (U2.toList == U.toList) = false := e1
              have hnx : Hid ((ps.take k).all (fun y => !dupB y ⟨U, T, S⟩) = ((ps.take k).drop (q + 1)).all (fun y => !dupB y ⟨U, T, S⟩)) := Lib.hid (by rw [hall.out, hsi.out]; simp only [dupB, e1]; rfl)
              clear e1 hsi
              go_wp2_with fail
              go_quiet (fail)
              go_wp2
              go_roundw
              case rel => exact ⟨q + 1, by omega, by go_num, below_drewN hbi _, hnx.out⟩
              case measure => simp [intOf]; omega
            | true =>
              have g1 : (U2.toList == U.toList) = true := e1
              cases e2 : sameB T2 T with
              | false =>
                have g2 : (T2.toList == T.toList) = false := e2
                have hnx : Hid ((ps.take k).all (fun y => !dupB y ⟨U, T, S⟩) = ((ps.take k).drop (q + 1)).all (fun y => !dupB y ⟨U, T, S⟩)) := Lib.hid (by rw [hall.out, hsi.out]; simp only [dupB, e1, e2]; rfl)
                clear e1 e2 hsi
                go_wp2_with fail
                go_quiet (fail)
                go_wp2
                go_roundw
                case rel => exact ⟨q + 1, by omega, by go_num, below_drewN hbi _, hnx.out⟩
                case measure => simp [intOf]; omega
              | true =>
                have g2 : (T2.toList == T.toList) = true := e2
                have hr : Hid (v = false) := Lib.hid (by rw [hres.out, he.out, hst2.out, hall.out, hsi.out]; simp only [dupB, e1, e2]; rfl)
                clear e1 e2 hsi
                go_wp2_with fail
                go_quiet (fail)
                go_wp2
                go_ret
                exact ⟨ret_bo hr.out.symm, below_drewN hbi _⟩
          · obtain rfl : q = k := by omega
            have hnx : Hid (okFrom [] ps = okFrom (ps.take (q + 1)) (ps.drop (q + 1))) := Lib.hid (by rw [he.out, hst2.out, hall.out, all8_end (by rw [hlk.out]; exact Nat.le_refl _), Bool.true_and])
            have g7 : decide ((q : Int) < (q : Int)) = false := decide_eq_false (by omega)
            go_wp2
            go_roundw
            case rel => exact ⟨q + 1, by omega, by go_num, hbi, hnx.out⟩
            case measure => simp [intOf]; omega
    · obtain rfl : k = n := by omega
      have hr : Hid (v = decide ((k : Int) ≤ 20)) := Lib.hid (by rw [hres.out, he.out, okFrom_end (by rw [hl0.out]; exact Nat.le_refl _), Bool.true_and])
      go_wp2
      go_ret
      exact ⟨ret_bo hr.out.symm, hbw⟩
theorem vo12_spec (A : Option Addr) (n c : Nat) (ps : List OverD) (w : World) (h : Overs w A n ps) (hn : n ≤ 1048576) (hg : ∀ x ∈ ps, x.good) :
    Calls Try.prog 16 #[.slice A n c] w fun e w' => e = .returned (.bool (ovB ps)) ∧ Below w.heap.size w w' := by
  have hc := Lib.hid (ok12 A n c ps rfl w h hn hg)
  go_enter Try.func16, Try.ntmps16
  go_wp2_with fail
  refine hc.out.mono ?_
  rintro e w1 ⟨rfl, hb1⟩
  go_wp2
  go_ret
  exact ⟨rfl, hb1⟩
end Go.Proofs.Ytomnnhmhmehdjaa
