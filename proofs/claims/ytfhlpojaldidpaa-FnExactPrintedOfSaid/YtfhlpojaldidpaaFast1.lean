/- The earliest strokes of bars: the model's function and the program's; each builds its list by append. -/
import Derived.Test.YtfhlpojaldidpaaFast0
namespace Go.Proofs.Ytfhlpojaldidpaa
open Go.RowKit
set_option linter.unusedVariables false
set_option linter.unusedSimpArgs false

theorem owns_below {w w' : World} {base : Nat} {e : TypeId} {size n : Nat} {v : Value} {xs : List Value} (h : w.ownsRow base e size v n xs) (hb : Below w.heap.size w w') : w'.ownsRow base e size v n xs :=
  h.kept (grown_below hb none) (by cases v.ownBlock <;> simp)
theorem owns_mono {w : World} {base base' : Nat} {e : TypeId} {size n : Nat} {v : Value} {xs : List Value} (h : w.ownsRow base e size v n xs) (hb : base' ≤ base) : w.ownsRow base' e size v n xs := by
  refine ⟨h.1, ?_⟩
  rcases h.2 with h | ⟨g, cap, cur, hv, hg, rest⟩
  · exact .inl h
  · exact .inr ⟨g, cap, cur, hv, Nat.le_trans hb hg, rest⟩
theorem BoxB.grown {w w' : World} {N : Nat} {b : BasketD} {row : Option Nat} (h : BoxB w N b) (hg : w.grownBy w' row) (hr : ∀ k, row = some k → N < k) : BoxB w' N b := by
  obtain ⟨c0, c1, c2, c3, c4⟩ := h
  have hne : some N ≠ row := fun e => by have := hr N e.symm; omega
  exact ⟨hg.cell c0 hne, hg.cell c1 hne, hg.cell c2 hne, hg.cell c3 hne, hg.cell c4 hne⟩
theorem stroke_cells (s : StrokeD) : s.cells.length = 2 := rfl
theorem flat_snoc (l : List StrokeD) (s : StrokeD) : (l ++ [s]).flatMap StrokeD.cells = l.flatMap StrokeD.cells ++ [.int .i64 s.bar, .int .i64 s.tick] := by simp [StrokeD.cells]
/-- What is owned reads as a slice of strokes. -/
theorem owns_read {w : World} {base n : Nat} {v : Value} {l : List StrokeD} (hn : l.length = n) (h : w.ownsRow base 39 2 v n (l.flatMap StrokeD.cells)) : ∃ A c, v = .slice A n c ∧ OStrokes w base A n l := by
  subst hn
  exact ORow.of_owns stroke_cells h

theorem ints_at {w wo : World} {N : Nat} {A : Option Addr} {n : Nat} {xs : List Int} (h : Ints w A n xs) (hN : w.heap.size = N) (hb : Below N w wo) : Ints wo A n xs := by
  subst hN
  exact h.below hb
set_option maxRecDepth 100000 in
set_option maxHeartbeats 3200000 in
theorem fast_walk (b : BasketD) (A : Option Addr) (n c : Nat) (xs : List Int) (w : World) (hok : basketOk b = true) (h60 : xs.length ≤ 60) (hbars : ∀ (i : Nat) (x : Int), xs[i]? = some x → hasBar b x = true) (h : Ints w A n xs) :
    Calls Try.prog 138 #[.agg #[.int .i64 b.bars, .int .i64 b.rise, .int .i64 b.fall, .int .i64 b.clear, .int .i64 b.near], .slice A n c] w fun e w' => ∃ v, e = .returned v ∧ w'.ownsRow w.heap.size 39 2 v n ((fastAt b xs n).flatMap StrokeD.cells) ∧ Below w.heap.size w w' := by
  obtain ⟨i0, hi, hz0, hz1, hz2⟩ := info_parts Try.infoStroke
  have hl0 := h.1
  have hn60 : n ≤ 60 := by omega
  have hfo := fun k hk => fastAt_ok hok hbars k hk
  have hfr := fun k (hk : k ≤ xs.length) bar => atAt_free hok hbars hk bar
  replace hfo := Lib.hid hfo
  replace hfr := Lib.hid hfr
  replace hbars := Lib.hid hbars
  have hnew := fun W t => BoxB.new W b t
  replace hnew := Lib.hid hnew
  go_enter Try.func138, Try.ntmps138
  go_wp2
  have hbox := Lib.hid ((hnew.out w 25).step (below_a1 _ (.cells #[] 39)))
  have hown : ((w.alloc (.cells #[.int .i64 b.bars, .int .i64 b.rise, .int .i64 b.fall, .int .i64 b.clear, .int .i64 b.near] 25)).alloc (.cells #[] 39)).ownsRow (w.heap.size + 1) 39 2 (.slice (some ⟨w.heap.size + 1, 0, none⟩) 0 0) 0 [] := by
    have := World.ownsRow_lit (w := w.alloc (.cells #[.int .i64 b.bars, .int .i64 b.rise, .int .i64 b.fall, .int .i64 b.clear, .int .i64 b.near] 25)) (e := 39) (base := w.heap.size + 1) (size := 2) #[] 0 (by simp) (by simp [maxLen]) (by simp)
    simpa using this
  have hb0 := below_a2 w (.cells #[.int .i64 b.bars, .int .i64 b.rise, .int .i64 b.fall, .int .i64 b.clear, .int .i64 b.near] 25) (.cells #[] 39)
  generalize hw0 : (w.alloc (.cells #[.int .i64 b.bars, .int .i64 b.rise, .int .i64 b.fall, .int .i64 b.clear, .int .i64 b.near] 25)).alloc (.cells #[] 39) = w0 at *
  have hS := h.below hb0
  have hsz : w.heap.size + 1 ≤ w0.heap.size := by rw [← hw0]; simp
  replace hb0 := Lib.hid hb0
  replace hown := Lib.hid hown
  clear hw0 hnew
  generalize hN : w.heap.size = N at *
  replace hN := Lib.hid hN
  go_loopw [5, 6, 7] (fun v a i wr => ∃ k : Nat, k ≤ n ∧ i = .int .i64 k ∧ a = .int .i64 (atAt b xs k) ∧ wr.ownsRow (N + 1) 39 2 v k ((fastAt b xs k).flatMap StrokeD.cells) ∧ Below (N + 1) w0 wr ∧ BoxB wr N b) (fun _ _ i _ => n - (intOf i).toNat)
  case atStart => exact ⟨0, by omega, rfl, rfl, hown.out, Below.refl _ _, hbox.out⟩
  case round =>
    obtain ⟨k, hk, rfl, rfl, hrow, hbo, hbx⟩ := hrel
    replace hbx := Lib.hid hbx
    rename World => wo
    have hbw : Below N w wo := hb0.out.trans (hbo.mono (by omega))
    by_cases hlt : k < n
    · obtain ⟨bb, off, x, rfl, hb', hx, c0⟩ := int_at (ints_at h hN.out hbw) hlt
      obtain ⟨A', c', rfl, hO⟩ := owns_read (fastAt_length b xs k) hrow
      have hxb := hbars.out k x hx.out
      obtain ⟨f1, f2, f3⟩ := hfo.out k (by omega)
      replace f1 := Lib.hid f1
      have hk0 : (0 : Int) ≤ (k : Int) := Int.natCast_nonneg _
      have hk1 : (k : Int) < (n : Int) := by omega
      have hfin := Lib.hid (hfr.out k (by omega) x)
      have hsucc := Lib.hid (fastAt_succ b xs k hx.out)
      have hwsz : N + 1 ≤ wo.heap.size := Nat.le_trans hsz hbo.size
      go_wp2
      go_loopw [6, 8] (fun a j wr => ∃ (q : Nat) (m : Int), q ≤ k ∧ j = .int .i64 q ∧ a = .int .i64 m ∧ 0 ≤ m ∧ m ≤ 200 * k + 200 ∧ Below wo.heap.size wo wr ∧ freeT b x (atAt b xs k) (fastAt b xs k) = freeT b x m ((fastAt b xs k).drop q)) (fun _ j _ => k - (intOf j).toNat)
      case atStart => exact ⟨0, _, by omega, rfl, rfl, f2, by omega, Below.refl _ _, rfl⟩
      case round =>
        obtain ⟨q, m, hq, rfl, rfl, hm0, hm1, hbq, he⟩ := hrel
        replace he := Lib.hid he
        rename World => wq
        have e0 := cell_step c0 hbq
        by_cases hltq : q < k
        · obtain ⟨gb, go', s, rfl, hgb, hs, g0, g1⟩ := stroke_at (hO.srow.below hbq) hltq
          obtain ⟨d0, d1, d2, d3, d4⟩ := hbx.out.step hbq
          obtain ⟨o1, o2, o3⟩ := f1.out s (List.mem_of_getElem? hs.out)
          have hj := fun W => wait_spec b s.bar x hok o1 hxb W
          obtain ⟨z1, z2⟩ := waitI_range hok s.bar x
          have hst := Lib.hid (freeT_drop (b := b) (bar := x) (m := m) hs.out)
          generalize waitI b s.bar x = W1 at *
          replace hj := Lib.hid hj
          have hq0 : (0 : Int) ≤ (q : Int) := Int.natCast_nonneg _
          have hq1 : (q : Int) < (k : Int) := by omega
          have hmx : 0 ≤ max m (s.tick + W1) ∧ max m (s.tick + W1) ≤ 200 * (k : Int) + 200 := by omega
          replace hmx := Lib.hid hmx
          have hnx : Hid (freeT b x (atAt b xs k) (fastAt b xs k) = freeT b x (max m (s.tick + W1)) ((fastAt b xs k).drop (q + 1))) := Lib.hid (by rw [he.out, hst.out])
          have s1 : IntKind.i64.wrap (s.tick + W1) = s.tick + W1 := IntWalk.i64_in _ (by omega)
          go_wp2_with fail
          refine wp_region_held_drew (S := fun w' => Below wq.heap.size wq w' ∧ w'.cell? ⟨N, 0, none⟩ = some (.int .i64 b.bars) ∧ w'.cell? ⟨N, 1, none⟩ = some (.int .i64 b.rise) ∧ w'.cell? ⟨N, 2, none⟩ = some (.int .i64 b.fall) ∧ w'.cell? ⟨N, 3, none⟩ = some (.int .i64 b.clear) ∧ w'.cell? ⟨N, 4, none⟩ = some (.int .i64 b.near) ∧ w'.cell? ⟨gb, go' + q * 2, none⟩ = some (.int .i64 s.bar) ∧ w'.cell? ⟨gb, go' + q * 2 + 1, none⟩ = some (.int .i64 s.tick) ∧ w'.cell? ⟨bb, off + k, none⟩ = some (.int .i64 x)) (by kernel_rfl) ?_ (fun hHeld => ?_)
          · exact ⟨(Below.refl _ _).drew, d0, d1, d2, d3, d4, g0, g1, e0⟩
          refine wpAnyH_take (i := 0) (v := ?va0) rfl (by kernel_rfl) (by kernel_rfl) (by kernel_rfl) (fun _ _ _ h => h) (Or.inl ⟨rfl, ?ya0⟩) (by assumption) ?_
          case ya0 => (intro w hSw; (try dsimp only at hSw); go_simp; first | done | with_reducible rfl)
          simp only [List.getElem_toArray, List.getElem_cons_succ, List.getElem_cons_zero, Act.put, List.setIfInBounds_toArray, List.set_cons_zero, List.set_cons_succ]
          refine wpAnyH_take (i := 1) (v := ?va1) rfl (by kernel_rfl) (by kernel_rfl) (by kernel_rfl) (fun _ _ _ h => h) (Or.inl ⟨rfl, ?ya1⟩) (by assumption) ?_
          case ya1 => (intro w hSw; (try dsimp only at hSw); go_simp; first | done | with_reducible rfl)
          simp only [List.getElem_toArray, List.getElem_cons_succ, List.getElem_cons_zero, Act.put, List.setIfInBounds_toArray, List.set_cons_zero, List.set_cons_succ]
          refine wpAnyH_take (i := 2) (v := ?va2) rfl (by kernel_rfl) (by kernel_rfl) (by kernel_rfl) (fun _ _ _ h => h) (Or.inl ⟨rfl, ?ya2⟩) (by assumption) ?_
          case ya2 => (intro w hSw; (try dsimp only at hSw); go_simp; first | done | with_reducible rfl)
          simp only [List.getElem_toArray, List.getElem_cons_succ, List.getElem_cons_zero, Act.put, List.setIfInBounds_toArray, List.set_cons_zero, List.set_cons_succ]
          refine wpAnyH_take (i := 3) (v := ?va3) rfl (by kernel_rfl) (by kernel_rfl) (by kernel_rfl) (fun _ _ _ h => h) (Or.inl ⟨rfl, ?ya3⟩) (by assumption) ?_
          case ya3 => (intro w hSw; (try dsimp only at hSw); go_simp; first | done | with_reducible rfl)
          simp only [List.getElem_toArray, List.getElem_cons_succ, List.getElem_cons_zero, Act.put, List.setIfInBounds_toArray, List.set_cons_zero, List.set_cons_succ]
          refine wpAnyH_take (i := 4) (v := ?va4) rfl (by kernel_rfl) (by kernel_rfl) (by kernel_rfl) (fun _ _ _ h => h) (Or.inl ⟨rfl, ?ya4⟩) (by assumption) ?_
          case ya4 => (intro w hSw; (try dsimp only at hSw); go_simp; first | done | with_reducible rfl)
          simp only [List.getElem_toArray, List.getElem_cons_succ, List.getElem_cons_zero, Act.put, List.setIfInBounds_toArray, List.set_cons_zero, List.set_cons_succ]
          refine wpAnyH_take (i := 5) (v := ?va5) rfl (by kernel_rfl) (by kernel_rfl) (by kernel_rfl) (fun _ _ _ h => h) (Or.inl ⟨rfl, ?ya5⟩) (by assumption) ?_
          case ya5 => (intro w hSw; (try dsimp only at hSw); go_simp; first | done | with_reducible rfl)
          simp only [List.getElem_toArray, List.getElem_cons_succ, List.getElem_cons_zero, Act.put, List.setIfInBounds_toArray, List.set_cons_zero, List.set_cons_succ]
          refine wpAnyH_take (i := 6) (v := ?va6) rfl (by kernel_rfl) (by kernel_rfl) (by kernel_rfl) (fun _ _ _ h => h) (Or.inl ⟨rfl, ?ya6⟩) (by assumption) ?_
          case ya6 => (intro w hSw; (try dsimp only at hSw); go_simp; first | done | with_reducible rfl)
          simp only [List.getElem_toArray, List.getElem_cons_succ, List.getElem_cons_zero, Act.put, List.setIfInBounds_toArray, List.set_cons_zero, List.set_cons_succ]
          refine wpAnyH_take (i := 7) (v := ?va7) rfl (by kernel_rfl) (by kernel_rfl) (by kernel_rfl) (fun _ _ _ h => h) (Or.inl ⟨rfl, ?ya7⟩) (by assumption) ?_
          case ya7 => (intro w hSw; (try dsimp only at hSw); go_simp; first | done | with_reducible rfl)
          simp only [List.getElem_toArray, List.getElem_cons_succ, List.getElem_cons_zero, Act.put, List.setIfInBounds_toArray, List.set_cons_zero, List.set_cons_succ]
          refine wpAnyH_take (i := 8) (v := ?va8) rfl (by kernel_rfl) (by kernel_rfl) (by kernel_rfl) (fun _ _ _ h => h) (Or.inl ⟨rfl, ?ya8⟩) (by assumption) ?_
          case ya8 => (intro w hSw; (try dsimp only at hSw); go_simp; first | done | with_reducible rfl)
          simp only [List.getElem_toArray, List.getElem_cons_succ, List.getElem_cons_zero, Act.put, List.setIfInBounds_toArray, List.set_cons_zero, List.set_cons_succ]
          refine wpAnyH_take (i := 9) (v := ?va9) rfl (by kernel_rfl) (by kernel_rfl) (by kernel_rfl) (fun _ _ _ h => h) (Or.inl ⟨rfl, ?ya9⟩) (by assumption) ?_
          case ya9 => (intro w hSw; (try dsimp only at hSw); go_simp; first | done | with_reducible rfl)
          simp only [List.getElem_toArray, List.getElem_cons_succ, List.getElem_cons_zero, Act.put, List.setIfInBounds_toArray, List.set_cons_zero, List.set_cons_succ]
          refine wpAnyH_take (i := 10) (v := ?va10) rfl (by kernel_rfl) (by kernel_rfl) (by kernel_rfl) (fun _ _ _ h => h) (Or.inl ⟨rfl, ?ya10⟩) (by assumption) ?_
          case ya10 => (intro w hSw; (try dsimp only at hSw); go_simp; first | done | with_reducible rfl)
          simp only [List.getElem_toArray, List.getElem_cons_succ, List.getElem_cons_zero, Act.put, List.setIfInBounds_toArray, List.set_cons_zero, List.set_cons_succ]
          refine wpAnyH_take (i := 11) (v := ?va11) rfl (by kernel_rfl) (by kernel_rfl) (by kernel_rfl) (fun _ _ _ h => h) (Or.inl ⟨rfl, ?ya11⟩) (by assumption) ?_
          case ya11 => (intro w hSw; (try dsimp only at hSw); go_simp; first | done | with_reducible rfl)
          simp only [List.getElem_toArray, List.getElem_cons_succ, List.getElem_cons_zero, Act.put, List.setIfInBounds_toArray, List.set_cons_zero, List.set_cons_succ]
          refine wpAnyH_take (i := 12) (v := ?va12) rfl (by kernel_rfl) (by kernel_rfl) (by kernel_rfl) (fun _ _ _ h => h) (Or.inl ⟨rfl, ?ya12⟩) (by assumption) ?_
          case ya12 => (intro w hSw; (try dsimp only at hSw); go_simp; first | done | with_reducible rfl)
          simp only [List.getElem_toArray, List.getElem_cons_succ, List.getElem_cons_zero, Act.put, List.setIfInBounds_toArray, List.set_cons_zero, List.set_cons_succ]
          refine wpAnyH_take (i := 13) (v := ?va13) rfl (by kernel_rfl) (by kernel_rfl) (by kernel_rfl) (fun _ _ _ h => h) (Or.inl ⟨rfl, ?ya13⟩) (by assumption) ?_
          case ya13 => (intro w hSw; (try dsimp only at hSw); go_simp; first | done | with_reducible rfl)
          simp only [List.getElem_toArray, List.getElem_cons_succ, List.getElem_cons_zero, Act.put, List.setIfInBounds_toArray, List.set_cons_zero, List.set_cons_succ]
          refine wpAnyH_take (i := 14) (v := ?va14) rfl (by kernel_rfl) (by kernel_rfl) (by kernel_rfl) (fun _ _ _ h => h) (Or.inl ⟨rfl, ?ya14⟩) (by assumption) ?_
          case ya14 => (intro w hSw; (try dsimp only at hSw); go_simp; first | done | with_reducible rfl)
          simp only [List.getElem_toArray, List.getElem_cons_succ, List.getElem_cons_zero, Act.put, List.setIfInBounds_toArray, List.set_cons_zero, List.set_cons_succ]
          refine wpAnyH_take (i := 15) (v := ?va15) rfl (by kernel_rfl) (by kernel_rfl) (by kernel_rfl) (fun _ _ _ h => h) (Or.inl ⟨rfl, ?ya15⟩) (by assumption) ?_
          case ya15 => (intro w hSw; (try dsimp only at hSw); go_simp; first | done | with_reducible rfl)
          simp only [List.getElem_toArray, List.getElem_cons_succ, List.getElem_cons_zero, Act.put, List.setIfInBounds_toArray, List.set_cons_zero, List.set_cons_succ]
          refine wpAnyH_ready (rs := [16]) (by kernel_rfl) (by simp) ?_
          refine AllReadyH.cons rfl (fun K hK => ?_) AllReadyH.nil
          go_simp
          refine (hj.out _).mono ?_
          rintro e w1 ⟨rfl, hb1⟩
          go_wp2_with fail
          refine hK.out _ _ ?_ (fun hHeld => ?_)
          · exact kept8 (by assumption) hb1
          clear hK K hb1
          try simp only [List.getElem_toArray, List.getElem_cons_succ, List.getElem_cons_zero, Act.put, List.setIfInBounds_toArray, List.set_cons_zero, List.set_cons_succ]
          refine wpAnyH_take (i := 17) (v := ?va17) rfl (by kernel_rfl) (by kernel_rfl) (by kernel_rfl) (fun _ _ _ h => h) (Or.inl ⟨rfl, ?ya17⟩) (by assumption) ?_
          case ya17 => (intro w hSw; (try dsimp only at hSw); go_simp; first | done | with_reducible rfl)
          simp only [List.getElem_toArray, List.getElem_cons_succ, List.getElem_cons_zero, Act.put, List.setIfInBounds_toArray, List.set_cons_zero, List.set_cons_succ]
          refine wpAnyH_ready (rs := [18]) (by kernel_rfl) (by simp) ?_
          refine AllReadyH.cons rfl (fun K hK => ?_) AllReadyH.nil
          go_simp
          refine (max_b m (s.tick + W1) _).mono ?_
          rintro e w1 ⟨rfl, hb1⟩
          go_wp2_with fail
          refine hK.out _ _ ?_ (fun hHeld => ?_)
          · exact kept8 (by assumption) hb1
          clear hK K hb1
          try simp only [List.getElem_toArray, List.getElem_cons_succ, List.getElem_cons_zero, Act.put, List.setIfInBounds_toArray, List.set_cons_zero, List.set_cons_succ]
          refine wpAnyH_take (i := 19) (v := ?va19) rfl (by kernel_rfl) (by kernel_rfl) (by kernel_rfl) (fun _ _ _ h => h) (Or.inl ⟨rfl, ?ya19⟩) (by assumption) ?_
          case ya19 => (intro w hSw; (try dsimp only at hSw); go_simp; first | done | with_reducible rfl)
          simp only [List.getElem_toArray, List.getElem_cons_succ, List.getElem_cons_zero, Act.put, List.setIfInBounds_toArray, List.set_cons_zero, List.set_cons_succ]
          refine wpAnyH_done (by kernel_rfl) ?_ _
          clear s1
          go_wp2
          go_roundw
          case rel => exact ⟨q + 1, _, by omega, by go_num, rfl, hmx.out.1, hmx.out.2, hbq.step hHeld.1, hnx.out⟩
          case measure => simp [intOf]; omega
        · obtain rfl : q = k := by omega
          have hat : Hid (m = freeT b x 0 (fastAt b xs q)) := Lib.hid (by rw [← hfin.out, he.out, freeT_end (fastAt_length b xs q)])
          have hrq := owns_below hrow hbq
          have hroq := Lib.hid ((hrow.lt))
          have hq63 : q + 1 ≤ maxLen := by unfold maxLen; omega
          have hqby : (q + 1) * 16 ≤ 140737488355328 := by omega
          go_wp2_with (at_builtin; refine wpList_append_own _ rfl _ _ 27 rfl (N + 1) 39 i0 _ 2 16 Try.underlying27 hi hz0 hz1 hz2 rfl (by decide) _ _ _ rfl (hrq.alloc _) ⟨wq.heap.size, 0, none⟩ 1 1 [.int .i64 x, .int .i64 m] rfl rfl ?c1 ?c2 ?c3 ?c4 ?c5 ?_)
          case c1 =>
            intro j u hj
            match j, hj with
            | 0, hj => cases hj; simp [Addr.add]
            | 1, hj => cases hj; simp [Addr.add]
            | j + 2, hj => simp at hj
          case c2 =>
            intro u hu
            simp only [List.mem_cons, List.not_mem_nil, or_false] at hu
            rcases hu with rfl | rfl <;> rfl
          case c3 => exact hq63
          case c4 => exact hqby
          case c5 =>
            have := hbq.size
            simp
            omega
          intro v' w3 hown3 hgr3 hnil
          have hrel3 : Hid (Value.int .i64 m = .int .i64 (atAt b xs (q + 1)) ∧ w3.ownsRow (N + 1) 39 2 v' (q + 1) ((fastAt b xs (q + 1)).flatMap StrokeD.cells) ∧ Below (N + 1) w0 w3 ∧ BoxB w3 N b) := Lib.hid (by
            refine ⟨by rw [hsucc.out.2, hat.out], ?_, ?_, ?_⟩
            · rw [hsucc.out.1, flat_snoc, ← hat.out]
              exact hown3
            · exact Below.grown ((hbo.trans (hbq.mono hwsz)).alloc (by have := hbq.size; omega) _) hgr3 (by have := hbq.size; simp; omega) (fun j hj => (hroq.out j hj).1)
            · exact BoxB.grown ((hbx.out.step hbq).step (below_a1 _ _)) hgr3 (fun j hj => by have := (hroq.out j hj).1; omega))
          clear hown3 hgr3 hnil
          go_wp2
          go_roundw
          case rel => exact ⟨q + 1, by omega, by go_num, hrel3.out.1, hrel3.out.2.1, hrel3.out.2.2.1, hrel3.out.2.2.2⟩
          case measure => simp [intOf]; omega
    · obtain rfl : k = n := by omega
      go_wp2
      go_ret
      obtain rfl := hN.out
      exact ⟨_, rfl, owns_mono hrow (by omega), hbw⟩
end Go.Proofs.Ytfhlpojaldidpaa
