/- Slices of Struck that the law makes, marks and looks at again. -/
import Derived.Test.YtiekomdpfmadgaaStruckS
import Derived.Test.YtiekomdpfmadgaaOwn0
import Derived.Test.YtiekomdpfmadgaaMarkT
import Derived.Deep.RegionHeld3
namespace Go.Proofs.Ytiekomdpfmadgaa
open Go.RowKit Go.ChangeShapes Go.WideShapes Go.Deep
set_option linter.unusedVariables false
set_option linter.unusedSimpArgs false

abbrev OStrucks (w : World) (base : Nat) (A : Option Addr) (n : Nat) (xs : List StruckD) : Prop := ORow 73 2 StruckD.cells w base A n xs
/-- The marks: element i of those from k on. -/
def markStruck (k : Int) : StruckD := ⟨k, markT (k + 1)⟩

set_option maxHeartbeats 800000 in
theorem toStruckS_own (A : Option Addr) (n c : Nat) (ps : List StruckD) (w : World) (h : Strucks w A n ps) (hn : n ≤ 1048576) :
    Calls Try.prog 23 #[.slice A n c] w fun e w' => ∃ g, e = .returned (.slice (some ⟨g, 0, none⟩) n n) ∧ OStrucks w' w.heap.size (some ⟨g, 0, none⟩) n ps ∧ Below w.heap.size w w' := by
  obtain ⟨i0, hi, hz0, hz1, hz2⟩ := info_parts Try.infoStruck
  have hmk := fun W => run_make_many (P := Try.prog) 38 73 i0 _ Try.underlying38 hi hz0 .i64 .i64 n (by rw [hz2]; omega) (by omega) W
  rw [hz1] at hmk
  go_enter Try.func23, Try.ntmps23
  go_wp2
  go_loopw [4] (fun i wr => ∃ k : Nat, k ≤ n ∧ i = .int .i64 k ∧ Below w.heap.size w wr ∧ Filled 2 StruckD.cells wr w.heap.size 73 (n * 2) ps k) (fun i _ => n - (intOf i).toNat)
  case atStart => exact ⟨0, by omega, rfl, (Below.refl _ w).alloc (Nat.le_refl _) _, .start _ (made_row _ _ _ _)⟩
  case round =>
    obtain ⟨k, hk, rfl, hbw, hF⟩ := hrel
    by_cases hlt : k < n
    · obtain ⟨b, off, x, rfl, hb, hx, c0, c1⟩ := struck_at (h.below hbw) hlt
      go_wp2_with (go_at_call 55; refine (toStruck_any x _).mono ?_)
      rintro e w1 ⟨rfl, hb1⟩
      have hF1 := hF.below hb1 hF.lt
      obtain ⟨f, hrow1⟩ := hF1.row
      have d0 := hrow1.cell (i := k * 2) (by omega)
      have e0 := hrow1.frozen (k * 2)
      have d1 := hrow1.cell (i := k * 2 + 1) (by omega)
      have e1 := hrow1.frozen (k * 2 + 1)
      have hbw1 := hbw.trans (hb1.mono hbw.size)
      go_wp2
      go_roundw
      case rel => exact ⟨k + 1, by omega, by go_num, putRow_below (Nat.le_refl _) x.cells w1 (k * 2) hbw1, hF1.step hx.out (fun _ => rfl)⟩
      case measure => simp [intOf]; omega
    · obtain rfl : k = n := by omega
      have hres := Lib.hid (ORow.of_filled (hF) h.1 (Nat.le_refl _) (fun _ => rfl))
      go_wp2
      go_ret
      exact ⟨_, rfl, hres.out, hbw⟩

theorem markStruck_cells (k : Int) : StruckD.cells (markStruck k) = [.int .i64 (k), .string (markT (k + 1))] := rfl
set_option maxRecDepth 100000 in
set_option maxHeartbeats 1600000 in
theorem markStruckS_any (A : Option Addr) (n c : Nat) (k : Int) (xs : List StruckD) (base : Nat) (w : World) (h : OStrucks w base A n xs) (hn : n ≤ 1048576) (hk0 : 1 ≤ k) (hk1 : k ≤ 1099511627776) :
    Calls Try.prog 29 #[.slice A n c, .int .i64 k] w fun e w' => e = .returned (.int .i64 (k + 2 * (n : Int))) ∧ OStrucks w' base A n (marksOf 2 markStruck k n) ∧ w.grownBy w' (A.map (·.block)) := by
  by_cases h0 : n = 0
  · subst h0
    have hres : Hid (OStrucks w base A 0 (marksOf 2 markStruck k 0)) := Lib.hid (by
      have := List.length_eq_zero_iff.1 h.1
      subst this
      exact h)
    clear h
    go_enter Try.func29, Try.ntmps29
    go_wp2
    go_loopw [1, 5] (fun kv i wr => i = .int .i64 0 ∧ kv = .int .i64 k ∧ wr = w) (fun _ i _ => 0)
    case atStart => exact ⟨rfl, rfl, rfl⟩
    case round =>
      obtain ⟨rfl, rfl, rfl⟩ := hrel
      go_wp2
      go_ret
      exact ⟨by simp, hres.out, grown_refl _ _⟩
  · obtain ⟨hl, ⟨rfl, hz⟩ | ⟨g, m, f, rfl, hb, hr, hm, hf⟩⟩ := h
    · exact absurd hz h0
    · clear hf hl
      have hfin : Hid (∀ w', Filled 2 StruckD.cells w' g 73 m (marksOf 2 markStruck k n) n → OStrucks w' base (some ⟨g, 0, none⟩) n (marksOf 2 markStruck k n)) := Lib.hid fun w' hF => ORow.of_marked hF hm (marksOf_length _ _ _ _) hb (fun _ => rfl)
      go_enter Try.func29, Try.ntmps29
      go_wp2
      go_loopw [1, 5] (fun kv i wr => ∃ j : Nat, j ≤ n ∧ i = .int .i64 j ∧ kv = .int .i64 (k + 2 * (j : Int)) ∧ w.grownBy wr (some g) ∧ Filled 2 StruckD.cells wr g 73 m (marksOf 2 markStruck k n) j) (fun _ i _ => n - (intOf i).toNat)
      case atStart => exact ⟨0, by omega, rfl, by simp, grown_refl _ _, .start f hr⟩
      case round =>
        obtain ⟨j, hj, rfl, rfl, hgr, hF⟩ := hrel
        obtain ⟨f', hrow, hf'⟩ := hF
        replace hf' := Lib.hid hf'
        by_cases hlt : j < n
        · have hgb := hrow.lt
          have d0 := hrow.cell (i := j * 2) (by omega)
          have e0 := hrow.frozen (j * 2)
          go_wp2_with fail
          refine (markText_int (k + 2 * (j : Int) + 1) _ (by omega) (by omega)).mono ?_
          rintro e w1 ⟨rfl, hb1⟩
          have r1 := ((hrow).set (j * 2) (.int .i64 (k + 2 * (j : Int)))).of_block (hb1.block g (by first | exact ((hrow).set (j * 2) (.int .i64 (k + 2 * (j : Int)))).lt | (simp; exact hgb)))
          have g1 := Lib.hid (grown_trans (grown_trans (hgr) (grown_set (g := g) (o := j * 2) (v := .int .i64 (k + 2 * (j : Int))))) (grown_below hb1 (some g)))
          have hgb1 := r1.lt
          have d1 := r1.cell (i := j * 2 + 1) (by omega)
          have e1 := r1.frozen (j * 2 + 1)
          have hrl := Lib.hid ((r1).set (j * 2 + 1) (.string (markT (k + 2 * (j : Int) + 1))))
          have hgl := Lib.hid (grown_trans (g1.out) (grown_set (g := g) (o := j * 2 + 1) (v := .string (markT (k + 2 * (j : Int) + 1)))))
          have q1 : k + 2 * (j : Int) + 1 = k + 2 * (j : Int) + 1 := by omega
          have hnext : Hid (Filled 2 StruckD.cells _ g 73 m (marksOf 2 markStruck k n) (j + 1)) := Lib.hid (Filled.next hf'.out hrl.out (marksOf_at (F := 2) (mk := markStruck) (k := k) hlt) (fun _ => rfl) (fun p hp => by
            have p0 : ¬ p = j * 2 := by omega
            have p1 : ¬ p = j * 2 + 1 := by omega
            simp [p0, p1]) (fun q u hu => by
            match q, hu with
            | 0, hu => (cases hu; first | (simp; done) | (simp; rfl) | rfl)
            | 1, hu => (cases hu; first | (simp; done) | (simp only [q1]; simp; rfl) | rfl)
            | q + 2, hu => simp [StruckD.cells, markStruck] at hu))
          clear q1
          go_wp2
          go_roundw
          case rel => exact ⟨j + 1, by omega, by go_num, by go_num, hgl.out, hnext.out⟩
          case measure => simp [intOf]; omega
        · obtain rfl : j = n := by omega
          have hres := Lib.hid (hfin.out _ ⟨f', hrow, hf'.out⟩)
          go_wp2
          go_ret
          exact ⟨rfl, hres.out, hgr⟩

set_option maxRecDepth 100000 in
set_option maxHeartbeats 1600000 in
theorem heldStruckS_any (A : Option Addr) (n c : Nat) (k : Int) (w : World) (h : Strucks w A n (marksOf 2 markStruck k n)) (hn : n ≤ 1048576) (hk0 : 1 ≤ k) (hk1 : k ≤ 1099511627776) :
    Calls Try.prog 30 #[.slice A n c, .int .i64 k] w fun e w' => e = .returned (.int .i64 (k + 2 * (n : Int))) ∧ Below w.heap.size w w' := by
  go_enter Try.func30, Try.ntmps30
  go_wp2
  go_loopw [1, 5] (fun kv i wr => ∃ j : Nat, j ≤ n ∧ i = .int .i64 j ∧ kv = .int .i64 (k + 2 * (j : Int)) ∧ Below w.heap.size w wr) (fun _ i _ => n - (intOf i).toNat)
  case atStart => exact ⟨0, by omega, rfl, by simp, Below.refl _ _⟩
  case round =>
    obtain ⟨j, hj, rfl, rfl, hbw⟩ := hrel
    by_cases hlt : j < n
    · obtain ⟨b, off, x, rfl, hb, hx, c0, c1⟩ := struck_at (h.below hbw) hlt
      have hxe := hx.out
      rw [marksOf_at hlt] at hxe
      cases hxe
      clear hx
      replace c0 : wr.cell? ⟨b, off + j * 2, none⟩ = some (.int .i64 (k + 2 * (j : Int))) := c0
      replace c1 : wr.cell? ⟨b, off + j * 2 + 1, none⟩ = some (.string (markT (k + 2 * (j : Int) + 1))) := c1
      have hm1 := Lib.hid (fun W => markText_int (k + 2 * (j : Int) + 1) W (by omega) (by omega))
      go_wp2_with fail
      refine wp_region_held_drew (S := fun w' => Below wr.heap.size wr w' ∧ w'.cell? ⟨b, off + j * 2, none⟩ = some (.int .i64 (k + 2 * (j : Int))) ∧ w'.cell? ⟨b, off + j * 2 + 1, none⟩ = some (.string (markT (k + 2 * (j : Int) + 1)))) (by kernel_rfl) ?_ (fun hHeld => ?_)
      · exact ⟨(Below.refl _ _).drew, c0, c1⟩
      refine wpAnyH_take (i := 0) (v := ?va0) rfl (by kernel_rfl) (by kernel_rfl) (by kernel_rfl) (fun _ _ _ h => h) (Or.inl ⟨rfl, ?ya0⟩) (by assumption) ?_
      case ya0 => (intro w hSw; (try dsimp only at hSw); go_simp; first | done | with_reducible rfl)
      simp only [List.getElem_toArray, List.getElem_cons_succ, List.getElem_cons_zero, Act.put, List.setIfInBounds_toArray, List.set_cons_zero, List.set_cons_succ]
      refine wpAnyH_take (i := 1) (v := ?va1) rfl (by kernel_rfl) (by kernel_rfl) (by kernel_rfl) (fun _ _ _ h => h) (Or.inl ⟨rfl, ?ya1⟩) (by assumption) ?_
      case ya1 => (intro w hSw; (try dsimp only at hSw); go_simp; first | done | with_reducible rfl)
      simp only [List.getElem_toArray, List.getElem_cons_succ, List.getElem_cons_zero, Act.put, List.setIfInBounds_toArray, List.set_cons_zero, List.set_cons_succ]
      refine wpAnyH_take (i := 2) (v := ?va2) rfl (by kernel_rfl) (by kernel_rfl) (by kernel_rfl) (fun _ _ _ h => h) (Or.inl ⟨rfl, ?ya2⟩) (by assumption) ?_
      case ya2 => (intro w hSw; (try dsimp only at hSw); go_simp; first | done | with_reducible rfl)
      simp only [List.getElem_toArray, List.getElem_cons_succ, List.getElem_cons_zero, Act.put, List.setIfInBounds_toArray, List.set_cons_zero, List.set_cons_succ]
      refine wpAnyH_take (i := 3) (v := ?va3) rfl (by kernel_rfl) (by kernel_rfl) (by kernel_rfl) (fun _ _ _ h => h) (Or.inl ⟨rfl, ?ya3⟩) (by assumption) ?_
      case ya3 => (intro w hSw; (try dsimp only at hSw); go_simp; first | done | with_reducible rfl)
      simp only [List.getElem_toArray, List.getElem_cons_succ, List.getElem_cons_zero, Act.put, List.setIfInBounds_toArray, List.set_cons_zero, List.set_cons_succ]
      refine wpAnyH_take (i := 4) (v := ?va4) rfl (by kernel_rfl) (by kernel_rfl) (by kernel_rfl) (fun _ _ _ h => h) (Or.inl ⟨rfl, ?ya4⟩) (by assumption) ?_
      case ya4 => (intro w hSw; (try dsimp only at hSw); go_simp; first | done | with_reducible rfl)
      simp only [List.getElem_toArray, List.getElem_cons_succ, List.getElem_cons_zero, Act.put, List.setIfInBounds_toArray, List.set_cons_zero, List.set_cons_succ]
      refine wpAnyH_take (i := 5) (v := ?va5) rfl (by kernel_rfl) (by kernel_rfl) (by kernel_rfl) (fun _ _ _ h => h) (Or.inl ⟨rfl, ?ya5⟩) (by assumption) ?_
      case ya5 => (intro w hSw; (try dsimp only at hSw); go_simp; first | done | with_reducible rfl)
      simp only [List.getElem_toArray, List.getElem_cons_succ, List.getElem_cons_zero, Act.put, List.setIfInBounds_toArray, List.set_cons_zero, List.set_cons_succ]
      refine wpAnyH_ready (rs := [6]) (by kernel_rfl) (by simp) ?_
      refine AllReadyH.cons rfl (fun K hK => ?_) AllReadyH.nil
      go_simp
      refine (hm1.out _).mono ?_
      rintro e w1 ⟨rfl, hb1⟩
      go_wp2_with fail
      refine hK.out _ _ ?_ (fun hHeld => ?_)
      · exact kept2 (by assumption) hb1
      clear hK K hb1
      try simp only [List.getElem_toArray, List.getElem_cons_succ, List.getElem_cons_zero, Act.put, List.setIfInBounds_toArray, List.set_cons_zero, List.set_cons_succ]
      refine wpAnyH_take (i := 7) (v := ?va7) rfl (by kernel_rfl) (by kernel_rfl) (by kernel_rfl) (fun _ _ _ h => h) (Or.inl ⟨rfl, ?ya7⟩) (by assumption) ?_
      case ya7 => (intro w hSw; (try dsimp only at hSw); go_simp; first | done | with_reducible rfl)
      simp only [List.getElem_toArray, List.getElem_cons_succ, List.getElem_cons_zero, Act.put, List.setIfInBounds_toArray, List.set_cons_zero, List.set_cons_succ]
      refine wpAnyH_done (by kernel_rfl) ?_ _
      obtain ⟨hs1, c0, c1⟩ := hHeld
      have hbw1 := hbw.step hs1
      rename World => v1
      go_wp2
      go_roundw
      case rel => exact ⟨j + 1, by omega, by go_num, by go_num, hbw1⟩
      case measure => simp [intOf]; omega
    · obtain rfl : j = n := by omega
      go_wp2
      go_ret
      exact ⟨rfl, hbw⟩

end Go.Proofs.Ytiekomdpfmadgaa
