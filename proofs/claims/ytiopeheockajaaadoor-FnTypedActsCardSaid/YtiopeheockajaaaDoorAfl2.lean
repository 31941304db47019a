/- ActsForLine as the program does it. -/
import Derived.Test.YtiopeheockajaaaDoorAfl1
import Derived.Test.YtiopeheockajaaaDoorShelf
import Derived.Laws.OwnMore
namespace Go.Proofs.YtiopeheockajaaaDoor
open Go.RowKit Go.ChangeShapes Go.WideShapes Go.Deep
set_option linter.unusedVariables false
set_option linter.unusedSimpArgs false

set_option maxRecDepth 100000 in
set_option maxHeartbeats 4000000 in
theorem afl_impl (c : CarriageD) (s : ByteArray) (w : World) (hg : c.good) (hs : s.size ≤ 1048576) :
    Calls Tryd.prog 7 #[.agg #[.int .i64 c.left, .int .i64 c.right, .int .i64 c.bell], .string s] w fun e w' => ∃ A' n' c', e = .returned (.tuple #[.slice A' n' c', .int .i64 (aflR c s).2]) ∧ n' ≤ 1048576 ∧ OActs w' w.heap.size A' n' (aflR c s).1 ∧ Below w.heap.size w w' := by
  cases hcar : carOk c with
  | false =>
    rw [aflR_1 hcar]
    have hc1 := Lib.hid (fun W => car_impl c hcar W)
    clear hcar
    obtain ⟨left, right, bell⟩ := c
    go_enter Tryd.func7, Tryd.ntmps7
    go_wp2_with fail
    refine (hc1.out _).mono ?_
    rintro e w1 ⟨rfl, hb1⟩
    have hb4 := (below_a1 _ _).step hb1
    go_wp2
    (go_ret2; exact ⟨none, 0, 0, rfl, by omega, .nil_, hb4⟩)
  | true =>
    have hc1 := Lib.hid (fun W => car_impl c hcar W)
    cases htx : (decide ((s.size : Int) ≤ 300) && bytesIn 32 126 s) with
    | false =>
      rw [aflR_2 hcar htx]
      have ht1 := Lib.hid (fun W => hasBytes_any s 32 126 300 false htx W (by unfold maxLen; omega))
      clear hcar htx
      obtain ⟨left, right, bell⟩ := c
      go_enter Tryd.func7, Tryd.ntmps7
      go_wp2_with fail
      refine (hc1.out _).mono ?_
      rintro e w1 ⟨rfl, hb1⟩
      have hb4 := (below_a1 _ _).step hb1
      go_wp2_with fail
      refine (ht1.out _).mono ?_
      rintro e w2 ⟨rfl, rfl⟩
      go_wp2
      (go_ret2; exact ⟨none, 0, 0, rfl, by omega, .nil_, hb4⟩)
    | true =>
      obtain ⟨hs3, hR⟩ := aflR_3 hcar htx
      have ht1 := Lib.hid (fun W => hasBytes_any s 32 126 300 true htx W (by unfold maxLen; omega))
      have hcr := carOk_iff.1 hcar
      clear htx hcar
      obtain ⟨T, hT⟩ : ∃ T : ByteArray, (⟨(Lib.trimRightB s.data.toList 32).toArray⟩ : ByteArray) = T := ⟨_, rfl⟩
      have hTl : T.data.toList = trimL s.data.toList := by rw [← hT]; rfl
      have hTs : (trimL s.data.toList).length = T.size := by rw [← hTl]; rfl
      have hTn : T.size ≤ 300 := by have := trim_len_le s.data.toList; rw [hTs] at this; exact Nat.le_trans this hs3
      have htr := Lib.hid (fun W => Tryd.strings_TrimRight_one s 32 (by decide) W (by omega))
      rw [hTs, ← hTl] at hR
      have hgo : Hid (∀ k (hk : k < T.size), T.data.toList[k]? = some (T[k]'hk)) := Lib.hid fun k hk => byte_of hk
      have hone : Hid (∀ k (hk : k < T.size), T.extract k (k + 1) = ⟨#[T[k]'hk]⟩) := Lib.hid fun k hk => one_byte hk
      have hfull : Hid (T.data.toList.take T.size = T.data.toList) := Lib.hid (List.take_of_length_le (Nat.le_refl _))
      obtain ⟨R, hRR⟩ : ∃ R, aflR c s = R := ⟨_, rfl⟩
      rw [hRR] at hR ⊢
      clear hRR hTl hTs
      replace hR := Lib.hid hR
      replace hT := Lib.hid hT
      obtain ⟨i0, hi, hz0, hz1, hz2⟩ := info_parts Tryd.infoAct
      obtain ⟨left, right, bell⟩ := c
      simp only at hcr
      obtain ⟨⟨q1, q2⟩, ⟨q3, q4⟩, q5, q6, q7⟩ := hcr
      go_enter Tryd.func7, Tryd.ntmps7
      go_wp2_with fail
      refine (hc1.out _).mono ?_
      rintro e w1 ⟨rfl, hb1⟩
      have b0 : w1.cell? ⟨w.heap.size, 0, none⟩ = some (.int .i64 left) := cell_step (cell_new (by simp) rfl) hb1
      have b1 : w1.cell? ⟨w.heap.size, 1, none⟩ = some (.int .i64 right) := cell_step (cell_new (by simp) rfl) hb1
      have hb4 := (below_a1 _ _).step hb1
      go_wp2_with fail
      refine (ht1.out _).mono ?_
      rintro e w2 ⟨rfl, rfl⟩
      go_wp2_with fail
      refine (htr.out _).mono ?_
      rintro e w2 ⟨rfl, hw2⟩
      replace hw2 := hw2.symm
      subst hw2
      rw [hT.out]
      by_cases hfu : right - left < 2 * (T.size : Int)
      · have gf : decide (right - left < 2 * (T.size : Int)) = true := decide_eq_true hfu
        have hmw : IntKind.i64.wrap (2 * (T.size : Int)) = 2 * (T.size : Int) := IntWalk.i64_in _ (by omega)
        have hsw : IntKind.i64.wrap (right - left) = right - left := IntWalk.i64_in _ (by omega)
        have hRe : Hid (R = ([], 5)) := Lib.hid (by rw [hR.out, if_pos hfu])
        clear hfu
        go_wp2
        (go_ret2; first | exact ⟨none, 0, 0, by rw [hRe.out]; rfl, by omega, by rw [hRe.out]; exact .nil_, hb4⟩ | exact ⟨none, 0, ⟨0, by rw [hRe.out]; rfl⟩, by omega, by rw [hRe.out]; exact .nil_, hb4⟩)
      · have gf : decide (right - left < 2 * (T.size : Int)) = false := decide_eq_false hfu
        have hRe : Hid (R = (aflL (T.data.toList.take T.size), 0)) := Lib.hid (by rw [hR.out, if_neg hfu, hfull.out])
        have hmw : IntKind.i64.wrap (2 * (T.size : Int)) = 2 * (T.size : Int) := IntWalk.i64_in _ (by omega)
        have hsw : IntKind.i64.wrap (right - left) = right - left := IntWalk.i64_in _ (by omega)
        clear hfu hR
        go_wp2_with fail
        generalize hB : w1.heap.size = B at *
        have hzw : w.heap.size ≤ B := hB ▸ hb4.size
        go_loopw [6, 7, 27] (fun v _ kv wr => ∃ j : Nat, j ≤ T.size ∧ kv = .int .i64 (j : Int) ∧ wr.ownsRow B 48 2 v j ((aflL (T.data.toList.take j)).flatMap ActD.cells) ∧ Below B w1 wr) (fun _ _ kv _ => T.size - (intOf kv).toNat)
        case atStart => exact ⟨0, by omega, rfl, by simpa [aflL] using (show w1.ownsRow B 48 2 (.slice none 0 0) 0 [] from ⟨rfl, .inl ⟨rfl, rfl⟩⟩), Below.refl _ _⟩
        case round =>
          rename World => wr
          obtain ⟨j, hj, rfl, hrow, hbw⟩ := hrel
          have hBz : B ≤ wr.heap.size := hB ▸ hbw.size
          by_cases hlt : j < T.size
          · have gj : decide ((j : Int) < (T.size : Int)) = true := decide_eq_true (by omega)
            have hjs : j < T.size := by omega
            have hj0 : (0 : Int) ≤ (j : Int) := Int.natCast_nonneg _
            have hj1 : (j : Int) < (T.size : Int) := by omega
            have hby := hgo.out j hjs
            by_cases h32 : (T[j]'hjs) = 32
            · have e1 : (((T[j]'hjs).toNat : Int) == 32) = true := by rw [h32]; rfl
              have e2 : ((T[j]'hjs).toNat == 32) = true := by rw [h32]; rfl
              have hnx : Hid (aflL (T.data.toList.take (j + 1)) = aflL (T.data.toList.take j) ++ [⟨1, ⟨#[]⟩⟩]) := Lib.hid (by rw [afl_step hby, actB, if_pos h32])
              clear h32 hby
              go_wp2_with (at_builtin; refine wpList_append_own _ rfl _ _ 24 rfl B 48 i0 _ 2 24 Tryd.underlying24 hi hz0 hz1 hz2 rfl (by decide) _ _ _ rfl (hrow.alloc _) ⟨wr.heap.size, 0, none⟩ 1 1 [.int .i64 1, .string ⟨#[]⟩] rfl rfl ?a1 ?b1 ?c1 ?d1 ?e1 ?_)
              case a1 =>
                intro i u hi
                match i, hi with
                | 0, hi => cases hi; exact cell_new (by simp [Addr.add]) rfl
                | 1, hi => cases hi; exact cell_new (by simp [Addr.add]) rfl
                | i + 2, hi => simp at hi
              case b1 =>
                intro u hu
                simp only [List.mem_cons, List.not_mem_nil, or_false] at hu
                rcases hu with rfl | rfl <;> rfl
              case c1 => unfold maxLen; omega
              case d1 => omega
              case e1 => simp; omega
              intro v' w4 hown3 hgr3 hnil
              have hgr := grown_trans (grown_below (below_a1 wr _) _) hgr3
              have hrel4 : Hid (w4.ownsRow B 48 2 v' (j + 1) ((aflL (T.data.toList.take (j + 1))).flatMap ActD.cells) ∧ Below B w1 w4) := Lib.hid ⟨by rw [hnx.out, act_snoc]; exact hown3, hbw.grown hgr (by omega) (fun q hq => act_ge hrow hq)⟩
              clear hown3 hgr3 hnil hgr
              go_wp2
              go_roundw
              case rel => exact ⟨j + 1, by omega, by go_num, hrel4.out.1, hrel4.out.2⟩
              case measure => simp [intOf]; omega
            · have e1 : (((T[j]'hjs).toNat : Int) == 32) = false := beq_eq_false_iff_ne.2 (fun h => h32 (UInt8.toNat_inj.1 (by simpa using (by omega : (T[j]'hjs).toNat = 32))))
              have e2 : ((T[j]'hjs).toNat == 32) = false := beq_eq_false_iff_ne.2 (fun h => h32 (UInt8.toNat_inj.1 (by simpa using h)))
              have hnx : Hid (aflL (T.data.toList.take (j + 1)) = aflL (T.data.toList.take j) ++ [⟨0, T.extract j (j + 1)⟩]) := Lib.hid (by rw [afl_step hby, actB, if_neg h32, hone.out j hjs])
              clear h32 hby
              go_wp2_with (at_builtin; refine wpList_append_own _ rfl _ _ 24 rfl B 48 i0 _ 2 24 Tryd.underlying24 hi hz0 hz1 hz2 rfl (by decide) _ _ _ rfl (hrow.alloc _) ⟨wr.heap.size, 0, none⟩ 1 1 [.int .i64 0, .string (T.extract j (j + 1))] rfl rfl ?a1 ?b1 ?c1 ?d1 ?e1 ?_)
              case a1 =>
                intro i u hi
                match i, hi with
                | 0, hi => cases hi; exact cell_new (by simp [Addr.add]) rfl
                | 1, hi => cases hi; exact cell_new (by simp [Addr.add]) rfl
                | i + 2, hi => simp at hi
              case b1 =>
                intro u hu
                simp only [List.mem_cons, List.not_mem_nil, or_false] at hu
                rcases hu with rfl | rfl <;> rfl
              case c1 => unfold maxLen; omega
              case d1 => omega
              case e1 => simp; omega
              intro v' w4 hown3 hgr3 hnil
              have hgr := grown_trans (grown_below (below_a1 wr _) _) hgr3
              have hrel4 : Hid (w4.ownsRow B 48 2 v' (j + 1) ((aflL (T.data.toList.take (j + 1))).flatMap ActD.cells) ∧ Below B w1 w4) := Lib.hid ⟨by rw [hnx.out, act_snoc]; exact hown3, hbw.grown hgr (by omega) (fun q hq => act_ge hrow hq)⟩
              clear hown3 hgr3 hnil hgr
              go_wp2
              go_roundw
              case rel => exact ⟨j + 1, by omega, by go_num, hrel4.out.1, hrel4.out.2⟩
              case measure => simp [intOf]; omega
          · obtain rfl : j = T.size := by omega
            have hlen : Hid ((aflL (T.data.toList.take T.size)).length = T.size) := Lib.hid (by rw [afl_len, List.length_take]; have : T.data.toList.length = T.size := rfl; omega)
            obtain ⟨A', c', rfl, hO⟩ := act_row hlen.out hrow
            have hO2 := Lib.hid (hO.mono (b' := w.heap.size) hzw)
            have hbz := Lib.hid (hb4.step (hB ▸ hbw))
            clear hrow hO
            go_wp2
            (go_ret2; first | exact ⟨A', _, c', by rw [hRe.out]; rfl, by omega, by rw [hRe.out]; exact hO2.out, hbz.out⟩ | exact ⟨A', _, ⟨c', by rw [hRe.out]; rfl⟩, by omega, by rw [hRe.out]; exact hO2.out, hbz.out⟩)
end Go.Proofs.YtiopeheockajaaaDoor
