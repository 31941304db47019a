/- ActsForLine: both sides. -/
import Derived.Test.YtiopeheockajaaaDoorAfl0
import Derived.Test.YtiopeheockajaaaDoorCar2
import Derived.Laws.OwnMore
namespace Go.Proofs.YtiopeheockajaaaDoor
open Go.RowKit Go.ChangeShapes Go.WideShapes Go.Deep
set_option linter.unusedVariables false
set_option linter.unusedSimpArgs false

theorem act_empty (w : World) (N : Nat) (hN : w.heap.size = N) : (w.alloc (.cells #[] 48)).ownsRow N 48 2 (.slice (some ⟨N, 0, none⟩) 0 0) 0 [] := by
  have := World.ownsRow_lit (w := w) (e := 48) (base := N) (size := 2) #[] 0 (by omega) (by simp [maxLen]) (by simp)
  simpa [hN] using this

set_option maxRecDepth 100000 in
set_option maxHeartbeats 4000000 in
theorem afl_spec (c : CarriageD) (s : ByteArray) (w : World) (hg : c.good) (hs : s.size ≤ 1048576) :
    Calls Tryd.prog 5 #[.agg #[.int .i64 c.left, .int .i64 c.right, .int .i64 c.bell], .string s] w fun e w' => ∃ A' n' c', e = .returned (.tuple #[.slice A' n' c', .int .i64 (aflR c s).2]) ∧ n' ≤ 1048576 ∧ OActs w' w.heap.size A' n' (aflR c s).1 ∧ Below w.heap.size w w' := by
  cases hcar : carOk c with
  | false =>
    rw [aflR_1 hcar]
    have hc1 := Lib.hid (fun W => car_spec c hcar W)
    clear hcar
    obtain ⟨left, right, bell⟩ := c
    go_enter Tryd.func5, Tryd.ntmps5
    go_wp2_with fail
    refine (hc1.out _).mono ?_
    rintro e w1 ⟨rfl, hb1⟩
    have hb4 := (below_a1 _ _).step hb1
    go_wp2
    (go_ret2; exact ⟨none, 0, 0, rfl, by omega, .nil_, hb4⟩)
  | true =>
    have hc1 := Lib.hid (fun W => car_spec c hcar W)
    cases htx : (decide ((s.size : Int) ≤ 300) && bytesIn 32 126 s) with
    | false =>
      rw [aflR_2 hcar htx]
      have ht1 := Lib.hid (fun W => text_spec s 300 false htx W (by unfold maxLen; omega))
      clear hcar htx
      obtain ⟨left, right, bell⟩ := c
      go_enter Tryd.func5, Tryd.ntmps5
      go_wp2_with fail
      refine (hc1.out _).mono ?_
      rintro e w1 ⟨rfl, hb1⟩
      have hb4 := (below_a1 _ _).step hb1
      go_wp2_with fail
      refine (ht1.out _).mono ?_
      rintro e w2 ⟨rfl, rfl⟩
      go_wp2
      (go_ret2; exact ⟨none, 0, 0, rfl, by omega, .nil_, hb4⟩)
    | true =>
      obtain ⟨hs3, hR⟩ := aflR_3 hcar htx
      have ht1 := Lib.hid (fun W => text_spec s 300 true htx W (by unfold maxLen; omega))
      have hcr := carOk_iff.1 hcar
      clear htx hcar
      obtain ⟨n, hn⟩ : ∃ n, (trimL s.data.toList).length = n := ⟨_, rfl⟩
      have hnl : n ≤ s.size := by have := trim_len_le s.data.toList; rw [hn] at this; exact this
      have htk : Hid (trimL s.data.toList = s.data.toList.take n) := Lib.hid (by rw [← hn]; exact trim_take _)
      have hstop : Hid (∀ k : Nat, k ≤ s.size → trimL s.data.toList = trimL (s.data.toList.take k) → (k = 0 ∨ ∃ b, s.data.toList[k - 1]? = some b ∧ ¬ b = 32) → k = n) := Lib.hid fun k hk h1 h2 => by
        rw [← hn]
        exact (trim_len_stop (by exact hk) h1 h2).symm
      have hgo : Hid (∀ k (hk : k < s.size), s.data.toList[k]? = some (s[k]'hk)) := Lib.hid fun k hk => byte_of hk
      have hone : Hid (∀ k (hk : k < s.size), s.extract k (k + 1) = ⟨#[s[k]'hk]⟩) := Lib.hid fun k hk => one_byte hk
      have hfull : Hid (s.data.toList.take s.size = s.data.toList) := Lib.hid (List.take_of_length_le (Nat.le_refl _))
      obtain ⟨R, hRR⟩ : ∃ R, aflR c s = R := ⟨_, rfl⟩
      rw [hRR] at hR ⊢
      clear hRR
      replace hR := Lib.hid hR
      obtain ⟨i0, hi, hz0, hz1, hz2⟩ := info_parts Tryd.infoAct
      obtain ⟨left, right, bell⟩ := c
      simp only at hcr
      obtain ⟨⟨q1, q2⟩, ⟨q3, q4⟩, q5, q6, q7⟩ := hcr
      go_enter Tryd.func5, Tryd.ntmps5
      go_wp2_with fail
      refine (hc1.out _).mono ?_
      rintro e w1 ⟨rfl, hb1⟩
      have b0 : w1.cell? ⟨w.heap.size, 0, none⟩ = some (.int .i64 left) := cell_step (cell_new (by simp) rfl) hb1
      have b1 : w1.cell? ⟨w.heap.size, 1, none⟩ = some (.int .i64 right) := cell_step (cell_new (by simp) rfl) hb1
      have hb4 := (below_a1 _ _).step hb1
      go_wp2_with fail
      refine (ht1.out _).mono ?_
      rintro e w2 ⟨rfl, rfl⟩
      go_wp2
      go_loop [6] (fun i => ∃ k : Nat, k ≤ s.size ∧ i = .int .i64 k ∧ Hid (trimL s.data.toList = trimL (s.data.toList.take k))) (fun i => (intOf i).toNat)
      case atStart => exact ⟨s.size, by omega, rfl, Lib.hid (by rw [hfull.out])⟩
      case round =>
        obtain ⟨k, hk, rfl, htr⟩ := hrel
        by_cases hk0 : 0 < k
        · have g0 : decide ((0 : Int) < (k : Int)) = true := decide_eq_true (by omega)
          have hw1 : IntKind.i64.wrap ((k : Int) - 1) = (k : Int) - 1 := IntWalk.i64_in _ (by omega)
          have hkn : ((k : Int) - 1).toNat = k - 1 := by omega
          have hi0 : (0 : Int) ≤ (k : Int) - 1 := by omega
          have hi1 : (k : Int) - 1 < (s.size : Int) := by omega
          have hlt : k - 1 < s.size := by omega
          have hby := hgo.out (k - 1) hlt
          by_cases h32 : (s[k - 1]'hlt) = 32
          · have e1 : (((s[k - 1]'hlt).toNat : Int) == 32) = true := by rw [h32]; rfl
            have e2 : ((s[k - 1]'hlt).toNat == 32) = true := by rw [h32]; rfl
            have hnx : Hid (trimL s.data.toList = trimL (s.data.toList.take (k - 1))) := Lib.hid (by
              rw [htr.out, ← trim_end hby h32, show k - 1 + 1 = k by omega])
            clear h32 hby
            go_wp2
            go_round
            case rel => exact ⟨k - 1, by omega, by rw [Int.natCast_sub (by omega)]; rfl, hnx⟩
            case measure => simp [intOf]; omega
          · have e1 : (((s[k - 1]'hlt).toNat : Int) == 32) = false := beq_eq_false_iff_ne.2 (fun h => h32 (UInt8.toNat_inj.1 (by simpa using (by omega : (s[k - 1]'hlt).toNat = 32))))
            have e2 : ((s[k - 1]'hlt).toNat == 32) = false := beq_eq_false_iff_ne.2 (fun h => h32 (UInt8.toNat_inj.1 (by simpa using h)))
            obtain rfl : k = n := hstop.out k hk htr.out (.inr ⟨_, hby, h32⟩)
            clear h32 hby hstop
            by_cases hfu : right - left < 2 * (k : Int)
            · have gf : decide (right - left < 2 * (k : Int)) = true := decide_eq_true hfu
              have hRe : Hid (R = ([], 5)) := Lib.hid (by rw [hR.out, hn, if_pos hfu])
              clear hfu
              go_wp2
              (go_ret2; first | exact ⟨none, 0, 0, by rw [hRe.out]; rfl, by omega, by rw [hRe.out]; exact .nil_, hb4⟩ | exact ⟨none, 0, ⟨0, by rw [hRe.out]; rfl⟩, by omega, by rw [hRe.out]; exact .nil_, hb4⟩)
            · have gf : decide (right - left < 2 * (k : Int)) = false := decide_eq_false hfu
              have hRe : Hid (R = (aflL (s.data.toList.take k), 0)) := Lib.hid (by rw [hR.out, hn, if_neg hfu, ← htk.out])
              have hmw : IntKind.i64.wrap (2 * (k : Int)) = 2 * (k : Int) := IntWalk.i64_in _ (by omega)
              have hsw : IntKind.i64.wrap (right - left) = right - left := IntWalk.i64_in _ (by omega)
              clear hfu hR
              go_wp2_with fail
              have hem := act_empty w1 w1.heap.size rfl
              have hbe := below_a1 w1 (.cells #[] 48)
              have hc0 := cell_step b0 hbe
              have hc9 := cell_step b1 hbe
              generalize hE : w1.alloc (.cells #[] 48) = we at *
              generalize hB : w1.heap.size = B at *
              have hzw : w.heap.size ≤ B := hB ▸ hb4.size
              go_loopw [7, 8] (fun v kv wr => ∃ j : Nat, j ≤ k ∧ kv = .int .i64 (j : Int) ∧ wr.ownsRow B 48 2 v j ((aflL (s.data.toList.take j)).flatMap ActD.cells) ∧ Below B w1 wr) (fun _ kv _ => k - (intOf kv).toNat)
              case atStart => exact ⟨0, by omega, rfl, by simpa [aflL] using hem, hbe⟩
              case round =>
                rename World => wr
                obtain ⟨j, hj, rfl, hrow, hbw⟩ := hrel
                have hBz : B ≤ wr.heap.size := hB ▸ hbw.size
                by_cases hlt : j < k
                · have gj : decide ((j : Int) < (k : Int)) = true := decide_eq_true (by omega)
                  have hjs : j < s.size := by omega
                  have hj0 : (0 : Int) ≤ (j : Int) := Int.natCast_nonneg _
                  have hj1 : (j : Int) < (s.size : Int) := by omega
                  have hby := hgo.out j hjs
                  by_cases h32 : (s[j]'hjs) = 32
                  · have e1 : (((s[j]'hjs).toNat : Int) == 32) = true := by rw [h32]; rfl
                    have e2 : ((s[j]'hjs).toNat == 32) = true := by rw [h32]; rfl
                    have hnx : Hid (aflL (s.data.toList.take (j + 1)) = aflL (s.data.toList.take j) ++ [⟨1, ⟨#[]⟩⟩]) := Lib.hid (by rw [afl_step hby, actB, if_pos h32])
                    clear h32 hby
                    go_wp2_with (at_builtin; refine wpList_append_own _ rfl _ _ 24 rfl B 48 i0 _ 2 24 Tryd.underlying24 hi hz0 hz1 hz2 rfl (by decide) _ _ _ rfl (hrow.alloc _) ⟨wr.heap.size, 0, none⟩ 1 1 [.int .i64 1, .string ⟨#[]⟩] rfl rfl ?a1 ?b1 ?c1 ?d1 ?e1 ?_)
                    case a1 =>
                      intro i u hi
                      match i, hi with
                      | 0, hi => cases hi; exact cell_new (by simp [Addr.add]) rfl
                      | 1, hi => cases hi; exact cell_new (by simp [Addr.add]) rfl
                      | i + 2, hi => simp at hi
                    case b1 =>
                      intro u hu
                      simp only [List.mem_cons, List.not_mem_nil, or_false] at hu
                      rcases hu with rfl | rfl <;> rfl
                    case c1 => unfold maxLen; omega
                    case d1 => omega
                    case e1 => simp; omega
                    intro v' w4 hown3 hgr3 hnil
                    have hgr := grown_trans (grown_below (below_a1 wr _) _) hgr3
                    have hrel4 : Hid (w4.ownsRow B 48 2 v' (j + 1) ((aflL (s.data.toList.take (j + 1))).flatMap ActD.cells) ∧ Below B w1 w4) := Lib.hid ⟨by rw [hnx.out, act_snoc]; exact hown3, hbw.grown hgr (by omega) (fun q hq => act_ge hrow hq)⟩
                    clear hown3 hgr3 hnil hgr
                    go_wp2
                    go_roundw
                    case rel => exact ⟨j + 1, by omega, by go_num, hrel4.out.1, hrel4.out.2⟩
                    case measure => simp [intOf]; omega
                  · have e1 : (((s[j]'hjs).toNat : Int) == 32) = false := beq_eq_false_iff_ne.2 (fun h => h32 (UInt8.toNat_inj.1 (by simpa using (by omega : (s[j]'hjs).toNat = 32))))
                    have e2 : ((s[j]'hjs).toNat == 32) = false := beq_eq_false_iff_ne.2 (fun h => h32 (UInt8.toNat_inj.1 (by simpa using h)))
                    have hnx : Hid (aflL (s.data.toList.take (j + 1)) = aflL (s.data.toList.take j) ++ [⟨0, s.extract j (j + 1)⟩]) := Lib.hid (by rw [afl_step hby, actB, if_neg h32, hone.out j hjs])
                    clear h32 hby
                    go_wp2_with (at_builtin; refine wpList_append_own _ rfl _ _ 24 rfl B 48 i0 _ 2 24 Tryd.underlying24 hi hz0 hz1 hz2 rfl (by decide) _ _ _ rfl (hrow.alloc _) ⟨wr.heap.size, 0, none⟩ 1 1 [.int .i64 0, .string (s.extract j (j + 1))] rfl rfl ?a1 ?b1 ?c1 ?d1 ?e1 ?_)
                    case a1 =>
                      intro i u hi
                      match i, hi with
                      | 0, hi => cases hi; exact cell_new (by simp [Addr.add]) rfl
                      | 1, hi => cases hi; exact cell_new (by simp [Addr.add]) rfl
                      | i + 2, hi => simp at hi
                    case b1 =>
                      intro u hu
                      simp only [List.mem_cons, List.not_mem_nil, or_false] at hu
                      rcases hu with rfl | rfl <;> rfl
                    case c1 => unfold maxLen; omega
                    case d1 => omega
                    case e1 => simp; omega
                    intro v' w4 hown3 hgr3 hnil
                    have hgr := grown_trans (grown_below (below_a1 wr _) _) hgr3
                    have hrel4 : Hid (w4.ownsRow B 48 2 v' (j + 1) ((aflL (s.data.toList.take (j + 1))).flatMap ActD.cells) ∧ Below B w1 w4) := Lib.hid ⟨by rw [hnx.out, act_snoc]; exact hown3, hbw.grown hgr (by omega) (fun q hq => act_ge hrow hq)⟩
                    clear hown3 hgr3 hnil hgr
                    go_wp2
                    go_roundw
                    case rel => exact ⟨j + 1, by omega, by go_num, hrel4.out.1, hrel4.out.2⟩
                    case measure => simp [intOf]; omega
                · obtain rfl : j = k := by omega
                  have hlen : Hid ((aflL (s.data.toList.take j)).length = j) := Lib.hid (by rw [afl_len, List.length_take]; have : s.data.toList.length = s.size := rfl; omega)
                  obtain ⟨A', c', rfl, hO⟩ := act_row hlen.out hrow
                  have hO2 := Lib.hid (hO.mono (b' := w.heap.size) hzw)
                  have hbz := Lib.hid (hb4.step (hB ▸ hbw))
                  clear hrow hO
                  go_wp2
                  (go_ret2; first | exact ⟨A', _, c', by rw [hRe.out]; rfl, by omega, by rw [hRe.out]; exact hO2.out, hbz.out⟩ | exact ⟨A', _, ⟨c', by rw [hRe.out]; rfl⟩, by omega, by rw [hRe.out]; exact hO2.out, hbz.out⟩)
        · have g0 : decide ((0 : Int) < (k : Int)) = false := decide_eq_false (by omega)
          obtain rfl : k = n := hstop.out k hk htr.out (.inl (by omega))
          clear hstop
          by_cases hfu : right - left < 2 * (k : Int)
          · have gf : decide (right - left < 2 * (k : Int)) = true := decide_eq_true hfu
            have hRe : Hid (R = ([], 5)) := Lib.hid (by rw [hR.out, hn, if_pos hfu])
            clear hfu
            go_wp2
            (go_ret2; first | exact ⟨none, 0, 0, by rw [hRe.out]; rfl, by omega, by rw [hRe.out]; exact .nil_, hb4⟩ | exact ⟨none, 0, ⟨0, by rw [hRe.out]; rfl⟩, by omega, by rw [hRe.out]; exact .nil_, hb4⟩)
          · have gf : decide (right - left < 2 * (k : Int)) = false := decide_eq_false hfu
            have hRe : Hid (R = (aflL (s.data.toList.take k), 0)) := Lib.hid (by rw [hR.out, hn, if_neg hfu, ← htk.out])
            have hmw : IntKind.i64.wrap (2 * (k : Int)) = 2 * (k : Int) := IntWalk.i64_in _ (by omega)
            have hsw : IntKind.i64.wrap (right - left) = right - left := IntWalk.i64_in _ (by omega)
            clear hfu hR
            go_wp2_with fail
            have hem := act_empty w1 w1.heap.size rfl
            have hbe := below_a1 w1 (.cells #[] 48)
            have hc0 := cell_step b0 hbe
            have hc9 := cell_step b1 hbe
            generalize hE : w1.alloc (.cells #[] 48) = we at *
            generalize hB : w1.heap.size = B at *
            have hzw : w.heap.size ≤ B := hB ▸ hb4.size
            go_loopw [7, 8] (fun v kv wr => ∃ j : Nat, j ≤ k ∧ kv = .int .i64 (j : Int) ∧ wr.ownsRow B 48 2 v j ((aflL (s.data.toList.take j)).flatMap ActD.cells) ∧ Below B w1 wr) (fun _ kv _ => k - (intOf kv).toNat)
            case atStart => exact ⟨0, by omega, rfl, by simpa [aflL] using hem, hbe⟩
            case round =>
              rename World => wr
              obtain ⟨j, hj, rfl, hrow, hbw⟩ := hrel
              have hBz : B ≤ wr.heap.size := hB ▸ hbw.size
              by_cases hlt : j < k
              · exact absurd hlt (by omega)
              · obtain rfl : j = k := by omega
                have hlen : Hid ((aflL (s.data.toList.take j)).length = j) := Lib.hid (by rw [afl_len, List.length_take]; have : s.data.toList.length = s.size := rfl; omega)
                obtain ⟨A', c', rfl, hO⟩ := act_row hlen.out hrow
                have hO2 := Lib.hid (hO.mono (b' := w.heap.size) hzw)
                have hbz := Lib.hid (hb4.step (hB ▸ hbw))
                clear hrow hO
                go_wp2
                (go_ret2; first | exact ⟨A', _, c', by rw [hRe.out]; rfl, by omega, by rw [hRe.out]; exact hO2.out, hbz.out⟩ | exact ⟨A', _, ⟨c', by rw [hRe.out]; rfl⟩, by omega, by rw [hRe.out]; exact hO2.out, hbz.out⟩)
end Go.Proofs.YtiopeheockajaaaDoor
