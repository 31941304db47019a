/- The model's test on keys and accents. -/
import Derived.Test.YtndodlfmjdgpcaaKbSpec
import Derived.Test.YtndodlfmjdgpcaaOwn0
import Derived.Deep.QuietTactic
import Derived.BigQuiet
namespace Go.Proofs.Ytndodlfmjdgpcaa
open Go.RowKit
set_option linter.unusedVariables false
set_option linter.unusedSimpArgs false

theorem find_val (A : Option Addr) (n c : Nat) (ks : List KeyD) (s : ByteArray) (w : World) (h : Keys w A n ks) (hn : n ≤ maxLen) (i : Int) (b : Bool) (hi : foundI (look s (spots 0 ks)) = i) (hb : foundS (look s (spots 0 ks)) = b) :
    Calls Try.prog 76 #[.slice A n c, .string s] w fun e w' => e = .returned (.tuple #[.int .i64 i, .bool b]) ∧ w = w' := hi ▸ hb ▸ find_spec A n c ks s w h hn

theorem okKey_low {S : List (ByteArray × SpotD)} {x : KeyD} (h : isLet x.low = false) : okKey S x = false := by simp [okKey, h]
theorem okKey_high {S : List (ByteArray × SpotD)} {x : KeyD} (h : isLet x.high = false) : okKey S x = false := by simp [okKey, h]
theorem okKey_same {S : List (ByteArray × SpotD)} {x : KeyD} (h : x.low = x.high) : okKey S x = false := by simp [okKey, h]
theorem okKey_seen1 {S : List (ByteArray × SpotD)} {x : KeyD} {p : SpotD} (h : look x.low S = some p) : okKey S x = false := by simp [okKey, h]
theorem okKey_seen2 {S : List (ByteArray × SpotD)} {x : KeyD} {p : SpotD} (h : look x.high S = some p) : okKey S x = false := by simp [okKey, h]
theorem okKey_yes {S : List (ByteArray × SpotD)} {x : KeyD} (h1 : isLet x.low = true) (h2 : isLet x.high = true) (h3 : ¬ x.low = x.high) (h4 : look x.low S = none) (h5 : look x.high S = none) : okKey S x = true := by simp [okKey, h1, h2, h3, h4, h5]
theorem valid_no {ks : List KeyD} {as_ : List AccentD} {k : Nat} {x : KeyD} (he : okKeys 0 [] ks = okKeys k (ks.take k) (ks.drop k)) (hx : ks[k]? = some x) (h : okKey (spots 0 (ks.take k)) x = false) : validKb ks as_ = false := by
  unfold validKb
  rw [he, okKeys_drop hx, h]
  simp
theorem valid_next {ks : List KeyD} {k : Nat} {x : KeyD} (he : okKeys 0 [] ks = okKeys k (ks.take k) (ks.drop k)) (hx : ks[k]? = some x) (h : okKey (spots 0 (ks.take k)) x = true) : okKeys 0 [] ks = okKeys (k + 1) (ks.take (k + 1)) (ks.drop (k + 1)) := by
  rw [he, okKeys_drop hx, h, Bool.true_and]
theorem okKeys_end {ks : List KeyD} {k : Nat} (hk : ks.length ≤ k) : okKeys k (ks.take k) (ks.drop k) = true := by
  rw [List.drop_of_length_le hk]
  rfl
theorem okAccs_end {S : List (ByteArray × SpotD)} {as_ : List AccentD} {k : Nat} (hk : as_.length ≤ k) : okAccs S (as_.take k) (as_.drop k) = true := by
  rw [List.drop_of_length_le hk]
  rfl
theorem acc_no {ks : List KeyD} {as_ : List AccentD} {k : Nat} {x : AccentD} (he : okAccs (spots 0 ks) [] as_ = okAccs (spots 0 ks) (as_.take k) (as_.drop k)) (hx : as_[k]? = some x) (h : okAcc (spots 0 ks) x = false) : validKb ks as_ = false := by
  unfold validKb
  rw [he, okAccs_drop hx, h]
  simp
theorem acc_clash {ks : List KeyD} {as_ : List AccentD} {k : Nat} {x : AccentD} (he : okAccs (spots 0 ks) [] as_ = okAccs (spots 0 ks) (as_.take k) (as_.drop k)) (hx : as_[k]? = some x) (h : ((as_.take k).all fun b => !clash b x) = false) : validKb ks as_ = false := by
  unfold validKb
  rw [he, okAccs_drop hx, h]
  simp
theorem acc_next {S : List (ByteArray × SpotD)} {as_ : List AccentD} {k : Nat} {x : AccentD} (he : okAccs S [] as_ = okAccs S (as_.take k) (as_.drop k)) (hx : as_[k]? = some x) (h : okAcc S x = true) (h2 : ((as_.take k).all fun b => !clash b x) = true) : okAccs S [] as_ = okAccs S (as_.take (k + 1)) (as_.drop (k + 1)) := by
  rw [he, okAccs_drop hx, h, h2]
  simp
theorem valid_end {ks : List KeyD} {as_ : List AccentD} (h1 : okKeys 0 [] ks = true) (h2 : okAccs (spots 0 ks) [] as_ = true) : validKb ks as_ = (decide (ks.length ≤ 40) && decide (as_.length ≤ 20)) := by
  unfold validKb
  rw [h1, h2]
  simp
theorem all_step {as_ : List AccentD} {x y : AccentD} {j k : Nat} (hj : j < k) (hy : as_[j]? = some y) (hc : clash y x = false) (h : ((as_.take k).all fun b => !clash b x) = (((as_.take k).drop j).all fun b => !clash b x)) :
    ((as_.take k).all fun b => !clash b x) = (((as_.take k).drop (j + 1)).all fun b => !clash b x) := by
  have h1 : (as_.take k)[j]? = some y := by rw [List.getElem?_take, if_pos hj]; exact hy
  obtain ⟨h2, h3⟩ := List.getElem?_eq_some_iff.1 h1
  rw [h, List.drop_eq_getElem_cons h2, h3, List.all_cons, hc]
  simp
theorem all_stop {as_ : List AccentD} {x y : AccentD} {j k : Nat} (hj : j < k) (hy : as_[j]? = some y) (hc : clash y x = true) : ((as_.take k).all fun b => !clash b x) = false := by
  have h1 : (as_.take k)[j]? = some y := by rw [List.getElem?_take, if_pos hj]; exact hy
  rw [List.all_eq_false]
  exact ⟨y, List.mem_of_getElem? h1, by simp [hc]⟩
theorem all_end {as_ : List AccentD} {x : AccentD} {k : Nat} : (((as_.take k).drop k).all fun b => !clash b x) = true := by
  rw [List.drop_of_length_le (by rw [List.length_take]; omega)]
  rfl

theorem found_neg {o : Option SpotD} (h : o = none) : foundI o = -1 := by rw [h]; rfl

set_option maxRecDepth 100000 in
set_option maxHeartbeats 3200000 in
theorem ok_keys (A B : Option Addr) (n c m d : Nat) (ks : List KeyD) (as_ : List AccentD) (w : World) (h : Keys w A n ks) (hAs : Accents w B m as_) (hn : n ≤ 1048576) (hm : m ≤ 1048576) (hc : n ≤ c) (hgk : ∀ x ∈ ks, x.good) (hga : ∀ x ∈ as_, x.good) :
    Calls Try.prog 69 #[.slice A n c, .slice B m d] w fun e w' => e = .returned (.bool (validKb ks as_)) ∧ Below w.heap.size w w' := by
  go_enter Try.func69, Try.ntmps69
  go_wp2
  go_loopw [5, 6, 7, 8, 9, 10] (fun i _ _ _ _ _ wr => ∃ k : Nat, k ≤ n ∧ i = .int .i64 k ∧ Below w.heap.size w wr ∧ okKeys 0 [] ks = okKeys k (ks.take k) (ks.drop k)) (fun i _ _ _ _ _ _ => n - (intOf i).toNat)
  case atStart => exact ⟨0, by omega, rfl, Below.refl _ _, rfl⟩
  case round =>
    obtain ⟨k, hk, rfl, hbw, he⟩ := hrel
    replace he := Lib.hid he
    by_cases hlt : k < n
    · obtain ⟨b, off, x, rfl, hb, hx, c0, c1, c2⟩ := key_at (h.below hbw) hlt
      have hK := (h.below hbw).take (Nat.le_of_lt hlt)
      have hgx := hgk x (List.mem_of_getElem? hx.out)
      have hgl : x.low.size ≤ maxLen := hgx.1
      have hgh : x.high.size ≤ maxLen := hgx.2
      have hk0 : (0 : Int) ≤ (k : Int) := Int.natCast_nonneg _
      have hk1 : (k : Int) < (n : Int) := by omega
      cases hl : isLet x.low with
      | false =>
        have hres := Lib.hid (valid_no (as_ := as_) he.out hx.out (okKey_low hl))
        have HL := Lib.hid hl
        clear hl
        go_wp2_with fail
        go_quiet ((go_at_call 75; refine quiet_l (letter_spec _ false ?_ _ ?_); exact HL.out; exact hgl))
        go_wp2
        go_ret
        exact ⟨ret_bo hres.out.symm, below_drewN hbw _⟩
      | true =>
        cases hh : isLet x.high with
        | false =>
          have hres := Lib.hid (valid_no (as_ := as_) he.out hx.out (okKey_high hh))
          have HL := Lib.hid hl
          have HH := Lib.hid hh
          clear hl hh
          go_wp2_with fail
          go_quiet ((first | (go_at_call_of 75 (Value.string x.low); refine quiet_l (letter_spec _ true ?_ _ ?_); exact HL.out; exact hgl) | (go_at_call_of 75 (Value.string x.high); refine quiet_l (letter_spec _ false ?_ _ ?_); exact HH.out; exact hgh)))
          go_wp2
          go_ret
          exact ⟨ret_bo hres.out.symm, below_drewN hbw _⟩
        | true =>
          by_cases heq : x.low = x.high
          · have hres := Lib.hid (valid_no (as_ := as_) he.out hx.out (okKey_same heq))
            have e1 := str_eq_true heq
            have HL := Lib.hid hl
            have HH := Lib.hid hh
            clear hl hh heq
            go_wp2_with fail
            go_quiet ((go_at_call 75; refine quiet_l (letter_spec _ true ?_ _ ?_); (first | exact HL.out | exact HH.out); (first | exact hgl | exact hgh)))
            go_wp2
            go_ret
            exact ⟨ret_bo hres.out.symm, below_drewN hbw _⟩
          · have e1 := str_eq_false heq
            obtain ⟨i1, hi1⟩ : ∃ i, foundI (look x.low (spots 0 (ks.take k))) = i := ⟨_, rfl⟩
            obtain ⟨b1, hb1⟩ : ∃ b, foundS (look x.low (spots 0 (ks.take k))) = b := ⟨_, rfl⟩
            obtain ⟨i2, hi2⟩ : ∃ i, foundI (look x.high (spots 0 (ks.take k))) = i := ⟨_, rfl⟩
            obtain ⟨b2, hb2⟩ : ∃ b, foundS (look x.high (spots 0 (ks.take k))) = b := ⟨_, rfl⟩
            have H1 := fun W (hW : Keys W (some ⟨b, off, none⟩) k (ks.take k)) => find_val (some ⟨b, off, none⟩) k c (ks.take k) x.low W hW (by unfold maxLen; omega) i1 b1 hi1 hb1
            have H2 := fun W (hW : Keys W (some ⟨b, off, none⟩) k (ks.take k)) => find_val (some ⟨b, off, none⟩) k c (ks.take k) x.high W hW (by unfold maxLen; omega) i2 b2 hi2 hb2
            replace H1 := Lib.hid H1
            replace H2 := Lib.hid H2
            replace hi1 := Lib.hid hi1
            replace hi2 := Lib.hid hi2
            have HE := Lib.hid heq
            have HL := Lib.hid hl
            have HH := Lib.hid hh
            clear hl hh heq hb1 hb2
            go_wp2_with fail
            go_quiet ((go_at_call 75; refine quiet_l (letter_spec _ true ?_ _ ?_); (first | exact HL.out | exact HH.out); (first | exact hgl | exact hgh)))
            obtain ⟨w1, hw1⟩ : ∃ w1, wr.drewN nq = w1 := ⟨_, rfl⟩
            have B1 : Below w.heap.size w w1 := hw1 ▸ below_drewN hbw _
            have K1 : Keys w1 (some ⟨b, off, none⟩) k (ks.take k) := hw1 ▸ hK.drewN _
            have d0 : w1.cell? ⟨b, off + k * 3, none⟩ = some (.string x.low) := hw1 ▸ c0
            have d1 : w1.cell? ⟨b, off + k * 3 + 1, none⟩ = some (.string x.high) := hw1 ▸ c1
            rw [hw1]
            clear hw1 c0 c1 c2 hK e1
            go_wp2_with fail
            go_quiet ((go_at_call 76; refine quiet_l (H1.out _ ?_); exact K1.drewN _))
            obtain ⟨w2, hw2⟩ : ∃ w2, w1.drewN nq = w2 := ⟨_, rfl⟩
            have B2 : Below w.heap.size w w2 := hw2 ▸ below_drewN B1 _
            have K2 : Keys w2 (some ⟨b, off, none⟩) k (ks.take k) := hw2 ▸ K1.drewN _
            have d2 : w2.cell? ⟨b, off + k * 3 + 1, none⟩ = some (.string x.high) := hw2 ▸ d1
            rw [hw2]
            clear hw2 d0 d1 B1 K1
            go_wp2_with fail
            go_quiet ((go_at_call 76; refine quiet_l (H2.out _ ?_); exact K2.drewN _))
            obtain ⟨w3, hw3⟩ : ∃ w3, w2.drewN nq = w3 := ⟨_, rfl⟩
            have B3 : Below w.heap.size w w3 := hw3 ▸ below_drewN B2 _
            rw [hw3]
            clear hw3 d2 B2 K2
            cases ho1 : look x.low (spots 0 (ks.take k)) with
            | some p =>
              have hres := Lib.hid (valid_no (as_ := as_) he.out hx.out (okKey_seen1 ho1))
              have g1 : decide ((0 : Int) ≤ i1) = true := decide_eq_true (by have := hi1.out; rw [ho1] at this; simp only [foundI] at this; omega)
              clear ho1
              go_wp2
              go_ret
              exact ⟨ret_bo hres.out.symm, B3⟩
            | none =>
              have g0 : i1 = -1 := by have := hi1.out; rw [ho1] at this; exact this.symm
              have g1 : decide ((0 : Int) ≤ i1) = false := decide_eq_false (by omega)
              cases ho2 : look x.high (spots 0 (ks.take k)) with
              | some p =>
                have hres := Lib.hid (valid_no (as_ := as_) he.out hx.out (okKey_seen2 ho2))
                have g2 : decide ((0 : Int) ≤ i2) = true := decide_eq_true (by have := hi2.out; rw [ho2] at this; simp only [foundI] at this; omega)
                clear ho1 ho2 g0
                go_wp2
                go_ret
                exact ⟨ret_bo hres.out.symm, B3⟩
              | none =>
                have hnext := Lib.hid (valid_next he.out hx.out (okKey_yes HL.out HH.out HE.out ho1 ho2))
                have g3 : i2 = -1 := by have := hi2.out; rw [ho2] at this; exact this.symm
                have g2 : decide ((0 : Int) ≤ i2) = false := decide_eq_false (by omega)
                clear ho1 ho2 g0 g3
                go_wp2
                go_roundw
                case rel => exact ⟨k + 1, by omega, by go_num, B3, hnext.out⟩
                case measure => simp [intOf]; omega
    · obtain rfl : k = n := by omega
      have hok : Hid (okKeys 0 [] ks = true) := Lib.hid (by rw [he.out]; exact okKeys_end (by rw [h.1]; exact Nat.le_refl _))
      rename World => wa
      have hK0 : Keys wa A k ks := h.below hbw
      have hA0 : Accents wa B m as_ := hAs.below hbw
      go_wp2
      go_loopw [11, 12] (fun i _ wq => ∃ j : Nat, j ≤ m ∧ i = .int .i64 j ∧ Below wa.heap.size wa wq ∧ okAccs (spots 0 ks) [] as_ = okAccs (spots 0 ks) (as_.take j) (as_.drop j)) (fun i _ _ => m - (intOf i).toNat)
      case atStart => exact ⟨0, by omega, rfl, Below.refl _ _, rfl⟩
      case round =>
        rename World => wq
        obtain ⟨j, hj, rfl, hbq, ha⟩ := hrel
        replace ha := Lib.hid ha
        have hKq : Keys wq A k ks := hK0.below hbq
        have hAq : Accents wq B m as_ := hA0.below hbq
        by_cases hlm : j < m
        · obtain ⟨b, off, x, rfl, hb, hx, c0, c1, c2⟩ := accent_at hAq hlm
          have hgx := hga x (List.mem_of_getElem? hx.out)
          have hj0 : (0 : Int) ≤ (j : Int) := Int.natCast_nonneg _
          have hj1 : (j : Int) < (m : Int) := by omega
          cases hv : okAcc (spots 0 ks) x with
          | false =>
            have hres := Lib.hid (acc_no ha.out hx.out hv)
            have hcall := Lib.hid (accent_spec A k c ks b (off + j * 3) x false hv wq hKq (by unfold maxLen; omega) hgx c0 c1 c2)
            clear hv c0 c1 c2
            go_wp2_with (go_at_call 108; refine hcall.out.mono ?_; rintro e w' ⟨rfl, rfl⟩)
            go_ret
            exact ⟨ret_bo hres.out.symm, hbw.trans (hbq.mono hbw.size)⟩
          | true =>
            have hcall := Lib.hid (accent_spec A k c ks b (off + j * 3) x true hv wq hKq (by unfold maxLen; omega) hgx c0 c1 c2)
            have HV := Lib.hid hv
            clear hv
            go_wp2_with (go_at_call 108; refine hcall.out.mono ?_; rintro e w' ⟨rfl, rfl⟩)
            clear hcall
            go_loopw [12] (fun i wp => ∃ t : Nat, t ≤ j ∧ i = .int .i64 t ∧ Below wq.heap.size wq wp ∧ ((as_.take j).all fun b => !clash b x) = (((as_.take j).drop t).all fun b => !clash b x)) (fun i _ => j - (intOf i).toNat)
            case atStart => exact ⟨0, by omega, rfl, Below.refl _ _, rfl⟩
            case round =>
              rename World => wp
              obtain ⟨t, ht, rfl, hbp, hl⟩ := hrel
              replace hl := Lib.hid hl
              by_cases hlt2 : t < j
              · obtain ⟨b2, off2, y, hB2, hb2, hy, g0, g1, g2⟩ := accent_at (hAq.below hbp) (Nat.lt_trans hlt2 hlm)
                cases hB2
                have q0 := (hbp.cell (p := ⟨b, off + j * 3, none⟩) hb).trans c0
                have q1 := (hbp.cell (p := ⟨b, off + j * 3 + 1, none⟩) hb).trans c1
                have q2 := (hbp.cell (p := ⟨b, off + j * 3 + 2, none⟩) hb).trans c2
                have ht0 : (0 : Int) ≤ (t : Int) := Int.natCast_nonneg _
                have ht1 : (t : Int) < (m : Int) := by omega
                have hB3 : Below w.heap.size w wp := hbw.trans ((hbq.step hbp).mono hbw.size)
                by_cases m1 : y.made = x.made
                · have e1 := str_eq_true m1
                  have hres := Lib.hid (acc_clash ha.out hx.out (all_stop hlt2 hy.out (by simp [clash, m1])))
                  clear m1
                  go_wp2_with fail
                  go_quiet (fail)
                  go_wp2
                  go_ret
                  exact ⟨ret_bo hres.out.symm, below_drewN hB3 _⟩
                · have e1 := str_eq_false m1
                  by_cases m2 : y.mark = x.mark
                  · have e2 := str_eq_true m2
                    by_cases m3 : y.letter = x.letter
                    · have e3 := str_eq_true m3
                      have hres := Lib.hid (acc_clash ha.out hx.out (all_stop hlt2 hy.out (by simp [clash, m2, m3])))
                      clear m1 m2 m3
                      go_wp2_with fail
                      go_quiet (fail)
                      go_wp2
                      go_ret
                      exact ⟨ret_bo hres.out.symm, below_drewN hB3 _⟩
                    · have e3 := str_eq_false m3
                      have hnext := Lib.hid (all_step hlt2 hy.out (by simp [clash, m1, m3]) hl.out)
                      clear m1 m2 m3
                      go_wp2_with fail
                      go_quiet (fail)
                      go_wp2
                      go_roundw
                      case rel => exact ⟨t + 1, by omega, by go_num, below_drewN hbp _, hnext.out⟩
                      case measure => simp [intOf]; omega
                  · have e2 := str_eq_false m2
                    have hnext := Lib.hid (all_step hlt2 hy.out (by simp [clash, m1, m2]) hl.out)
                    clear m1 m2
                    go_wp2_with fail
                    go_quiet (fail)
                    go_wp2
                    go_roundw
                    case rel => exact ⟨t + 1, by omega, by go_num, below_drewN hbp _, hnext.out⟩
                    case measure => simp [intOf]; omega
              · obtain rfl : t = j := by omega
                have hall := Lib.hid (hl.out.trans all_end)
                have hnext := Lib.hid (acc_next ha.out hx.out HV.out hall.out)
                clear c0 c1 c2
                go_wp2
                go_roundw
                case rel => exact ⟨t + 1, by omega, by go_num, hbq.step hbp, hnext.out⟩
                case measure => simp [intOf]; omega
        · obtain rfl : j = m := by omega
          have hoka : Hid (okAccs (spots 0 ks) [] as_ = true) := Lib.hid (by rw [ha.out]; exact okAccs_end (by rw [hAq.1]; exact Nat.le_refl _))
          have hres := Lib.hid (valid_end hok.out hoka.out)
          have hB3 : Below w.heap.size w wq := hbw.trans (hbq.mono hbw.size)
          by_cases h40 : k ≤ 40
          · have g1 : decide ((k : Int) ≤ 40) = true := decide_eq_true (by omega)
            have hr2 : Hid (validKb ks as_ = decide ((j : Int) ≤ 20)) := Lib.hid (by
              rw [hres.out, h.1, hAq.1, decide_eq_true h40, Bool.true_and]
              apply decide_eq_decide.2
              omega)
            clear h40
            go_wp2
            go_ret
            exact ⟨ret_bo hr2.out.symm, hB3⟩
          · have g1 : decide ((k : Int) ≤ 40) = false := decide_eq_false (by omega)
            have hr2 : Hid (validKb ks as_ = false) := Lib.hid (by rw [hres.out, h.1, decide_eq_false h40, Bool.false_and])
            clear h40
            go_wp2
            go_ret
            exact ⟨ret_bo hr2.out.symm, hB3⟩
end Go.Proofs.Ytndodlfmjdgpcaa
