/- What the program tells of acts: TypeActs. -/
import Derived.Test.YtiopeheockajaaaDoorFol4
namespace Go.Proofs.YtiopeheockajaaaDoor
open Go.RowKit Go.ChangeShapes Go.WideShapes Go.Deep
set_option linter.unusedVariables false
set_option linter.unusedSimpArgs false

theorem pr_drop {E : List EvD} {k : Nat} {x : EvD} (h : E[k]? = some x) : (E.drop k).filterMap prOf = (prOf x).toList ++ (E.drop (k + 1)).filterMap prOf := by
  obtain ⟨h1, rfl⟩ := List.getElem?_eq_some_iff.1 h
  rw [List.drop_eq_getElem_cons h1, List.filterMap_cons]
  cases prOf E[k] <;> simp
theorem neq_pr (x : EvD) : (!StruckD.eqB ⟨x.place, x.letter⟩ ⟨0, ⟨#[]⟩⟩) = (prOf x).isSome := by
  obtain ⟨pl, le, r, st⟩ := x
  unfold prOf StruckD.eqB
  simp only
  by_cases h1 : pl = 0
  · by_cases h2 : le.size = 0
    · have h3 : le = ⟨#[]⟩ := by
        obtain ⟨⟨l⟩⟩ := le
        cases l with
        | nil => rfl
        | cons a l => exact absurd h2 (by show ¬ (a :: l).length = 0; simp)
      rw [if_pos ⟨h1, h2⟩, h3]
      simp [h1]
    · have h3 : ¬ le = ⟨#[]⟩ := fun e => h2 (by rw [e]; rfl)
      rw [if_neg (fun q => h2 q.2)]
      have := letter_some h2
      cases hl : le.toList with
      | nil => rw [hl] at this; cases this
      | cons a l => simp
  · rw [if_neg (fun q => h1 q.1)]
    simp [h1]
theorem neq_zero (x : EvD) (W : World) : (binOp .neq 66 (.agg #[.int .i64 x.place, .string x.letter]) (.agg #[.int .i64 0, .string ⟨#[]⟩])).run Tryd.prog W = .ok (.bool (prOf x).isSome) W := by
  have h := neq_struck ⟨x.place, x.letter⟩ ⟨0, ⟨#[]⟩⟩ W
  have e : (!StruckD.eqB ⟨x.place, x.letter⟩ ⟨0, ⟨#[]⟩⟩) = (prOf x).isSome := neq_pr x
  rw [e] at h
  exact h
theorem st_snoc (l : List StruckD) (x : StruckD) : (l ++ [x]).flatMap StruckD.cells = l.flatMap StruckD.cells ++ [.int .i64 x.place, .string x.letter] := by simp [StruckD.cells]

set_option maxRecDepth 100000 in
set_option maxHeartbeats 4000000 in
theorem typed_impl (c : CarriageD) (A : Option Addr) (n cc : Nat) (xs : List ActD) (w : World) (hg : c.good) (h : Acts w A n xs) (hn : n ≤ 1048576) (hx : ∀ x ∈ xs, x.good) :
    Calls Tryd.prog 14 #[.agg #[.int .i64 c.left, .int .i64 c.right, .int .i64 c.bell], .slice A n cc] w fun e w' => ∃ A' n' c', e = .returned (.tuple #[.slice A' n' c', .int .i64 (typed c xs).2.1, .int .i64 (typed c xs).2.2]) ∧ n' ≤ 1048576 ∧ OStrucks w' w.heap.size A' n' (typed c xs).1 ∧ Below w.heap.size w w' := by
  cases hcar : carOk c with
  | false =>
    have hok : (carOk c && actsOk xs) = false := by rw [hcar]; rfl
    rw [(typed_no hok).1]
    have hc1 := Lib.hid (fun W => car_impl c hcar W)
    clear hok hcar hx
    obtain ⟨left, right, bell⟩ := c
    go_enter Tryd.func14, Tryd.ntmps14
    go_wp2_with fail
    refine (hc1.out _).mono ?_
    rintro e w1 ⟨rfl, hb1⟩
    have hb4 := (below_a1 _ _).step hb1
    go_wp2
    (go_ret3; exact ⟨none, 0, 0, rfl, by omega, .nil_, hb4⟩)
  | true =>
    have hc1 := Lib.hid (fun W => car_impl c hcar W)
    cases hacts : actsOk xs with
    | false =>
      have hok : (carOk c && actsOk xs) = false := by rw [hacts, Bool.and_false]
      rw [(typed_no hok).1]
      have hl1 := Lib.hid (fun W (hS : Acts W A n xs) => acts_impl A n cc xs W hS hn hx hacts)
      clear hok hcar hx hacts
      obtain ⟨left, right, bell⟩ := c
      go_enter Tryd.func14, Tryd.ntmps14
      go_wp2_with fail
      refine (hc1.out _).mono ?_
      rintro e w1 ⟨rfl, hb1⟩
      have hb2 := (below_a1 _ _).step hb1
      have hS := h.below hb2
      go_wp2_with fail
      refine (hl1.out _ hS).mono ?_
      rintro e w2 ⟨rfl, hb3⟩
      have hb4 := hb2.step hb3
      go_wp2
      (go_ret3; exact ⟨none, 0, 0, rfl, by omega, .nil_, hb4⟩)
    | true =>
      have hok : (carOk c && actsOk xs) = true := by rw [hcar, hacts]; rfl
      have hl1 := Lib.hid (fun W (hS : Acts W A n xs) => acts_impl A n cc xs W hS hn hx hacts)
      have hlen : n ≤ 200 := by rw [← h.1]; exact of_decide_eq_true (Bool.and_eq_true _ _ ▸ hacts).2
      have hfl := Lib.hid (fun W (hS : Acts W A n xs) => follow_impl c A n cc xs W hcar hS hlen (acts_mem hacts))
      have hfin := Lib.hid (ran_fine hcar hacts)
      have hle := ran_le c xs
      have hEl := evs_len c xs (startS c)
      have hEs := Lib.hid (evs_stopped c xs (startS c))
      have hEr := evs_rings c xs (startS c)
      have hEo := Lib.hid (evs_out c xs (startS c) (acts_mem hacts))
      rw [h.1] at hle
      rw [show runS c (startS c) xs = ran c xs from rfl, h.1] at hEl
      rw [show runS c (startS c) xs = ran c xs from rfl] at hEs hEr hEo
      rw [(typed_yes hok).1]
      try rw [h.1]
      generalize evs c (startS c) xs = E at *
      generalize ran c xs = p at *
      clear hx hacts hcar hok
      obtain ⟨p1, p2⟩ := p
      simp only at hle hEl hEr
      generalize hq : (if p2 < n then (([] : List StruckD), (0 : Int), (6 : Int)) else (p1.out, p1.at_, 0)) = q at *
      replace hq := Lib.hid hq
      obtain ⟨i0, hi, hz0, hz1, hz2t⟩ := info_parts Tryd.infoStruck
      obtain ⟨left, right, bell⟩ := c
      go_enter Tryd.func14, Tryd.ntmps14
      go_wp2_with fail
      refine (hc1.out _).mono ?_
      rintro e w1 ⟨rfl, hb1⟩
      have d0 : w1.cell? ⟨w.heap.size, 0, none⟩ = some (.int .i64 left) := cell_step (cell_new rfl rfl) hb1
      have d1 : w1.cell? ⟨w.heap.size, 1, none⟩ = some (.int .i64 right) := cell_step (cell_new rfl rfl) hb1
      have d2 : w1.cell? ⟨w.heap.size, 2, none⟩ = some (.int .i64 bell) := cell_step (cell_new rfl rfl) hb1
      have hb2 := (below_a1 _ _).step hb1
      have hS := h.below hb2
      go_wp2_with fail
      refine (hl1.out _ hS).mono ?_
      rintro e w2 ⟨rfl, hb3⟩
      replace d0 := cell_step d0 hb3
      replace d1 := cell_step d1 hb3
      replace d2 := cell_step d2 hb3
      have hS2 := hS.below hb3
      have hb4 := hb2.step hb3
      clear hb1 hb2 hb3 hS h hc1 hl1
      go_wp2_with fail
      refine (hfl.out _ hS2).mono ?_
      rintro e w3 ⟨AE, nE, cE, rfl, hnE, hO, hb5⟩
      have hB := Lib.hid (hb4.step hb5)
      have hz2 := hb4.size
      have hR := hO.srow
      have hnl := hR.1
      clear d0 d1 d2 hb4 hb5 hfl hS2 hO
      have hEs2 : Hid (∀ i e, E[i]? = some e → e.stopped = decide (i = p2)) := hEs
      have hEo2 : Hid (E.filterMap prOf = p1.out) := Lib.hid (by have := hEo.out; simpa [startS] using this)
      have hNz := Lib.hid hB.out.size
      clear hEs hEr hEo
      generalize hN : w.heap.size = N at *
      replace hN := Lib.hid hN
      replace hEl := Lib.hid hEl
      go_wp2
      go_loopw [7, 28] (fun v i wr => ∃ (k : Nat) (done : List StruckD), k ≤ nE ∧ i = .int .i64 k ∧ Below w3.heap.size w3 wr ∧ k ≤ p2 ∧ done.length ≤ k ∧ wr.ownsRow w3.heap.size 66 2 v done.length (done.flatMap StruckD.cells) ∧ done ++ (E.drop k).filterMap prOf = p1.out) (fun _ i _ => nE - (intOf i).toNat)
      case atStart => exact ⟨0, [], by omega, rfl, Below.refl _ _, by omega, Nat.le_refl _, ⟨rfl, .inl ⟨rfl, rfl⟩⟩, by simpa using hEo2.out⟩
      case round =>
        rename World => wr
        obtain ⟨k, done, hk, rfl, hbw, hp, hdl, hrow, hout⟩ := hrel
        replace hout := Lib.hid hout
        by_cases hlt : k < nE
        · obtain ⟨b, off, x, rfl, hb, hxs, c0, c1, c2, c3⟩ := ev_at (hR.below hbw) hlt
          have hs := hEs2.out k x hxs.out
          have hdr := Lib.hid (pr_drop hxs.out)
          have hk0 : (0 : Int) ≤ (k : Int) := Int.natCast_nonneg _
          have hk1 : (k : Int) < (nE : Int) := by omega
          by_cases he : k = p2
          · rw [decide_eq_true he] at hs
            rw [hs] at c3
            have hl : p2 < n := by
              have := hEl.out
              rw [hnl] at this
              split at this <;> omega
            have hq2 : Hid (q = ([], 0, 6)) := Lib.hid (by rw [← hq.out, if_pos hl])
            replace hrow := Lib.hid hrow
            clear hs he
            go_wp2
            go_ret3
            obtain rfl := hN.out
            exact ⟨none, 0, 0, by rw [hq2.out]; rfl, by omega, by rw [hq2.out]; exact .nil_, hB.out.step (hbw.step (below_a1 _ _))⟩
          · rw [decide_eq_false he] at hs
            rw [hs] at c3
            have hneq := fun W => neq_zero x W
            have hzw := hbw.size
            cases hpr : prOf x with
            | none =>
              have hnx : Hid (done ++ (E.drop (k + 1)).filterMap prOf = p1.out) := Lib.hid (by rw [← hout.out, hdr.out, hpr]; simp)
              rw [hpr] at hneq
              replace hrow := Lib.hid hrow
              clear hs hpr
              go_wp2
              go_roundw
              case rel => exact ⟨k + 1, done, by omega, by go_num, hbw.step (below_a1 _ _), by omega, by omega, hrow.out.alloc _, hnx.out⟩
              case measure => simp [intOf]; omega
            | some y =>
              have hy : y = ⟨x.place, x.letter⟩ := by
                unfold prOf at hpr
                split at hpr
                · cases hpr
                · cases hpr; rfl
              have hnx : Hid ((done ++ [(⟨x.place, x.letter⟩ : StruckD)]) ++ (E.drop (k + 1)).filterMap prOf = p1.out) := Lib.hid (by rw [← hout.out, hdr.out, hpr, hy]; simp)
              rw [hpr] at hneq
              have hrl := Lib.hid hrow
              clear hs hpr hy
              go_wp2_with (at_builtin; refine wpList_append_own _ rfl _ _ 38 rfl w3.heap.size 66 i0 _ 2 24 Tryd.underlying38 hi hz0 hz1 hz2t rfl (by decide) _ _ _ rfl ((hrl.out.alloc _).alloc _) ⟨wr.heap.size + 1, 0, none⟩ 1 1 [.int .i64 x.place, .string x.letter] rfl rfl ?a1 ?b1 ?c1 ?d1 ?e1 ?_)
              case a1 =>
                intro j u hj
                match j, hj with
                | 0, hj => cases hj; exact cell_new (by simp [Addr.add]) rfl
                | 1, hj => cases hj; exact cell_new (by simp [Addr.add]) rfl
                | j + 2, hj => simp at hj
              case b1 =>
                intro u hu
                simp only [List.mem_cons, List.not_mem_nil, or_false] at hu
                rcases hu with rfl | rfl <;> rfl
              case c1 => unfold maxLen; omega
              case d1 => omega
              case e1 =>
                simp
                omega
              intro v' w4 hown3 hgr3 hnil
              have hgr := grown_trans (grown_below (below_a2 wr _ _) _) hgr3
              have hrel4 : Hid (w4.ownsRow w3.heap.size 66 2 v' (done ++ [(⟨x.place, x.letter⟩ : StruckD)]).length ((done ++ [(⟨x.place, x.letter⟩ : StruckD)]).flatMap StruckD.cells) ∧ Below w3.heap.size w3 w4) := Lib.hid ⟨by rw [st_snoc, List.length_append]; exact hown3, hbw.grown hgr hzw (fun j hj => owns_ge hrl.out hj)⟩
              clear hown3 hgr3 hnil hgr hrl
              go_wp2
              go_roundw
              case rel => exact ⟨k + 1, done ++ [(⟨x.place, x.letter⟩ : StruckD)], by omega, by go_num, hrel4.out.2, by omega, by simp; omega, hrel4.out.1, hnx.out⟩
              case measure => simp [intOf]; omega
        · obtain rfl : k = nE := by omega
          have hl : ¬ p2 < n := by
            have := hEl.out
            rw [hnl] at this
            split at this <;> omega
          have hq2 : Hid (q = (p1.out, p1.at_, 0)) := Lib.hid (by rw [← hq.out, if_neg hl])
          have hdo : done = p1.out := by have := hout.out; rw [List.drop_of_length_le (by omega)] at this; simpa using this
          obtain ⟨A', c', rfl, hO⟩ := owns_row rfl hrow
          have hO2 := Lib.hid (hO.mono (b' := N) hNz.out)
          clear hrow hO
          go_wp2
          go_ret3
          obtain rfl := hN.out
          exact ⟨A', _, c', by rw [hq2.out]; rfl, by omega, by rw [hq2.out]; exact hdo ▸ hO2.out, hB.out.step hbw⟩
end Go.Proofs.YtiopeheockajaaaDoor
