/- Slices of Act that the law makes, marks and looks at again. -/
import Derived.Test.YtiopeheockajaaaDoorActS
import Derived.Test.YtiopeheockajaaaDoorOwn0
import Derived.Test.YtiopeheockajaaaDoorMarkT
import Derived.Deep.RegionHeld3
namespace Go.Proofs.YtiopeheockajaaaDoor
open Go.RowKit Go.ChangeShapes Go.WideShapes Go.Deep
set_option linter.unusedVariables false
set_option linter.unusedSimpArgs false

abbrev OActs (w : World) (base : Nat) (A : Option Addr) (n : Nat) (xs : List ActD) : Prop := ORow 48 2 ActD.cells w base A n xs
/-- The marks: element i of those from k on. -/
def markAct (k : Int) : ActD := ⟨k, markT (k + 1)⟩

theorem markAct_cells (k : Int) : ActD.cells (markAct k) = [.int .i64 (k), .string (markT (k + 1))] := rfl
set_option maxRecDepth 100000 in
set_option maxHeartbeats 1600000 in
theorem markActS_any (A : Option Addr) (n c : Nat) (k : Int) (xs : List ActD) (base : Nat) (w : World) (h : OActs w base A n xs) (hn : n ≤ 1048576) (hk0 : 1 ≤ k) (hk1 : k ≤ 1099511627776) :
    Calls Tryd.prog 9 #[.slice A n c, .int .i64 k] w fun e w' => e = .returned (.int .i64 (k + 2 * (n : Int))) ∧ OActs w' base A n (marksOf 2 markAct k n) ∧ w.grownBy w' (A.map (·.block)) := by
  by_cases h0 : n = 0
  · subst h0
    have hres : Hid (OActs w base A 0 (marksOf 2 markAct k 0)) := Lib.hid (by
      have := List.length_eq_zero_iff.1 h.1
      subst this
      exact h)
    clear h
    go_enter Tryd.func9, Tryd.ntmps9
    go_wp2
    go_loopw [1, 5] (fun kv i wr => i = .int .i64 0 ∧ kv = .int .i64 k ∧ wr = w) (fun _ i _ => 0)
    case atStart => exact ⟨rfl, rfl, rfl⟩
    case round =>
      obtain ⟨rfl, rfl, rfl⟩ := hrel
      go_wp2
      go_ret
      exact ⟨by simp, hres.out, grown_refl _ _⟩
  · obtain ⟨hl, ⟨rfl, hz⟩ | ⟨g, m, f, rfl, hb, hr, hm, hf⟩⟩ := h
    · exact absurd hz h0
    · clear hf hl
      have hfin : Hid (∀ w', Filled 2 ActD.cells w' g 48 m (marksOf 2 markAct k n) n → OActs w' base (some ⟨g, 0, none⟩) n (marksOf 2 markAct k n)) := Lib.hid fun w' hF => ORow.of_marked hF hm (marksOf_length _ _ _ _) hb (fun _ => rfl)
      go_enter Tryd.func9, Tryd.ntmps9
      go_wp2
      go_loopw [1, 5] (fun kv i wr => ∃ j : Nat, j ≤ n ∧ i = .int .i64 j ∧ kv = .int .i64 (k + 2 * (j : Int)) ∧ w.grownBy wr (some g) ∧ Filled 2 ActD.cells wr g 48 m (marksOf 2 markAct k n) j) (fun _ i _ => n - (intOf i).toNat)
      case atStart => exact ⟨0, by omega, rfl, by simp, grown_refl _ _, .start f hr⟩
      case round =>
        obtain ⟨j, hj, rfl, rfl, hgr, hF⟩ := hrel
        obtain ⟨f', hrow, hf'⟩ := hF
        replace hf' := Lib.hid hf'
        by_cases hlt : j < n
        · have hgb := hrow.lt
          have d0 := hrow.cell (i := j * 2) (by omega)
          have e0 := hrow.frozen (j * 2)
          go_wp2_with fail
          refine (markText_int (k + 2 * (j : Int) + 1) _ (by omega) (by omega)).mono ?_
          rintro e w1 ⟨rfl, hb1⟩
          have r1 := ((hrow).set (j * 2) (.int .i64 (k + 2 * (j : Int)))).of_block (hb1.block g (by first | exact ((hrow).set (j * 2) (.int .i64 (k + 2 * (j : Int)))).lt | (simp; exact hgb)))
          have g1 := Lib.hid (grown_trans (grown_trans (hgr) (grown_set (g := g) (o := j * 2) (v := .int .i64 (k + 2 * (j : Int))))) (grown_below hb1 (some g)))
          have hgb1 := r1.lt
          have d1 := r1.cell (i := j * 2 + 1) (by omega)
          have e1 := r1.frozen (j * 2 + 1)
          have hrl := Lib.hid ((r1).set (j * 2 + 1) (.string (markT (k + 2 * (j : Int) + 1))))
          have hgl := Lib.hid (grown_trans (g1.out) (grown_set (g := g) (o := j * 2 + 1) (v := .string (markT (k + 2 * (j : Int) + 1)))))
          have q1 : k + 2 * (j : Int) + 1 = k + 2 * (j : Int) + 1 := by omega
          have hnext : Hid (Filled 2 ActD.cells _ g 48 m (marksOf 2 markAct k n) (j + 1)) := Lib.hid (Filled.next hf'.out hrl.out (marksOf_at (F := 2) (mk := markAct) (k := k) hlt) (fun _ => rfl) (fun p hp => by
            have p0 : ¬ p = j * 2 := by omega
            have p1 : ¬ p = j * 2 + 1 := by omega
            simp [p0, p1]) (fun q u hu => by
            match q, hu with
            | 0, hu => (cases hu; first | (simp; done) | (simp; rfl) | rfl)
            | 1, hu => (cases hu; first | (simp; done) | (simp only [q1]; simp; rfl) | rfl)
            | q + 2, hu => simp [ActD.cells, markAct] at hu))
          clear q1
          go_wp2
          go_roundw
          case rel => exact ⟨j + 1, by omega, by go_num, by go_num, hgl.out, hnext.out⟩
          case measure => simp [intOf]; omega
        · obtain rfl : j = n := by omega
          have hres := Lib.hid (hfin.out _ ⟨f', hrow, hf'.out⟩)
          go_wp2
          go_ret
          exact ⟨rfl, hres.out, hgr⟩

set_option maxRecDepth 100000 in
set_option maxHeartbeats 1600000 in
theorem heldActS_any (A : Option Addr) (n c : Nat) (k : Int) (w : World) (h : Acts w A n (marksOf 2 markAct k n)) (hn : n ≤ 1048576) (hk0 : 1 ≤ k) (hk1 : k ≤ 1099511627776) :
    Calls Tryd.prog 10 #[.slice A n c, .int .i64 k] w fun e w' => e = .returned (.int .i64 (k + 2 * (n : Int))) ∧ Below w.heap.size w w' := by
  go_enter Tryd.func10, Tryd.ntmps10
  go_wp2
  go_loopw [1, 5] (fun kv i wr => ∃ j : Nat, j ≤ n ∧ i = .int .i64 j ∧ kv = .int .i64 (k + 2 * (j : Int)) ∧ Below w.heap.size w wr) (fun _ i _ => n - (intOf i).toNat)
  case atStart => exact ⟨0, by omega, rfl, by simp, Below.refl _ _⟩
  case round =>
    obtain ⟨j, hj, rfl, rfl, hbw⟩ := hrel
    by_cases hlt : j < n
    · obtain ⟨b, off, x, rfl, hb, hx, c0, c1⟩ := act_at (h.below hbw) hlt
      have hxe := hx.out
      rw [marksOf_at hlt] at hxe
      cases hxe
      clear hx
      replace c0 : wr.cell? ⟨b, off + j * 2, none⟩ = some (.int .i64 (k + 2 * (j : Int))) := c0
      replace c1 : wr.cell? ⟨b, off + j * 2 + 1, none⟩ = some (.string (markT (k + 2 * (j : Int) + 1))) := c1
      have hm1 := Lib.hid (fun W => markText_int (k + 2 * (j : Int) + 1) W (by omega) (by omega))
      go_wp2_with fail
      refine wp_region_held_drew (S := fun w' => Below wr.heap.size wr w' ∧ w'.cell? ⟨b, off + j * 2, none⟩ = some (.int .i64 (k + 2 * (j : Int))) ∧ w'.cell? ⟨b, off + j * 2 + 1, none⟩ = some (.string (markT (k + 2 * (j : Int) + 1)))) (by kernel_rfl) ?_ (fun hHeld => ?_)
      · exact ⟨(Below.refl _ _).drew, c0, c1⟩
      refine wpAnyH_take (i := 0) (v := ?va0) rfl (by kernel_rfl) (by kernel_rfl) (by kernel_rfl) (fun _ _ _ h => h) (Or.inl ⟨rfl, ?ya0⟩) (by assumption) ?_
      case ya0 => (intro w hSw; (try dsimp only at hSw); go_simp; first | done | with_reducible rfl)
      simp only [List.getElem_toArray, List.getElem_cons_succ, List.getElem_cons_zero, Act.put, List.setIfInBounds_toArray, List.set_cons_zero, List.set_cons_succ]
      refine wpAnyH_take (i := 1) (v := ?va1) rfl (by kernel_rfl) (by kernel_rfl) (by kernel_rfl) (fun _ _ _ h => h) (Or.inl ⟨rfl, ?ya1⟩) (by assumption) ?_
      case ya1 => (intro w hSw; (try dsimp only at hSw); go_simp; first | done | with_reducible rfl)
      simp only [List.getElem_toArray, List.getElem_cons_succ, List.getElem_cons_zero, Act.put, List.setIfInBounds_toArray, List.set_cons_zero, List.set_cons_succ]
      refine wpAnyH_take (i := 2) (v := ?va2) rfl (by kernel_rfl) (by kernel_rfl) (by kernel_rfl) (fun _ _ _ h => h) (Or.inl ⟨rfl, ?ya2⟩) (by assumption) ?_
      case ya2 => (intro w hSw; (try dsimp only at hSw); go_simp; first | done | with_reducible rfl)
      simp only [List.getElem_toArray, List.getElem_cons_succ, List.getElem_cons_zero, Act.put, List.setIfInBounds_toArray, List.set_cons_zero, List.set_cons_succ]
      refine wpAnyH_take (i := 3) (v := ?va3) rfl (by kernel_rfl) (by kernel_rfl) (by kernel_rfl) (fun _ _ _ h => h) (Or.inl ⟨rfl, ?ya3⟩) (by assumption) ?_
      case ya3 => (intro w hSw; (try dsimp only at hSw); go_simp; first | done | with_reducible rfl)
      simp only [List.getElem_toArray, List.getElem_cons_succ, List.getElem_cons_zero, Act.put, List.setIfInBounds_toArray, List.set_cons_zero, List.set_cons_succ]
      refine wpAnyH_take (i := 4) (v := ?va4) rfl (by kernel_rfl) (by kernel_rfl) (by kernel_rfl) (fun _ _ _ h => h) (Or.inl ⟨rfl, ?ya4⟩) (by assumption) ?_
      case ya4 => (intro w hSw; (try dsimp only at hSw); go_simp; first | done | with_reducible rfl)
      simp only [List.getElem_toArray, List.getElem_cons_succ, List.getElem_cons_zero, Act.put, List.setIfInBounds_toArray, List.set_cons_zero, List.set_cons_succ]
      refine wpAnyH_take (i := 5) (v := ?va5) rfl (by kernel_rfl) (by kernel_rfl) (by kernel_rfl) (fun _ _ _ h => h) (Or.inl ⟨rfl, ?ya5⟩) (by assumption) ?_
      case ya5 => (intro w hSw; (try dsimp only at hSw); go_simp; first | done | with_reducible rfl)
      simp only [List.getElem_toArray, List.getElem_cons_succ, List.getElem_cons_zero, Act.put, List.setIfInBounds_toArray, List.set_cons_zero, List.set_cons_succ]
      refine wpAnyH_ready (rs := [6]) (by kernel_rfl) (by simp) ?_
      refine AllReadyH.cons rfl (fun K hK => ?_) AllReadyH.nil
      go_simp
      refine (hm1.out _).mono ?_
      rintro e w1 ⟨rfl, hb1⟩
      go_wp2_with fail
      refine hK.out _ _ ?_ (fun hHeld => ?_)
      · exact kept2 (by assumption) hb1
      clear hK K hb1
      try simp only [List.getElem_toArray, List.getElem_cons_succ, List.getElem_cons_zero, Act.put, List.setIfInBounds_toArray, List.set_cons_zero, List.set_cons_succ]
      refine wpAnyH_take (i := 7) (v := ?va7) rfl (by kernel_rfl) (by kernel_rfl) (by kernel_rfl) (fun _ _ _ h => h) (Or.inl ⟨rfl, ?ya7⟩) (by assumption) ?_
      case ya7 => (intro w hSw; (try dsimp only at hSw); go_simp; first | done | with_reducible rfl)
      simp only [List.getElem_toArray, List.getElem_cons_succ, List.getElem_cons_zero, Act.put, List.setIfInBounds_toArray, List.set_cons_zero, List.set_cons_succ]
      refine wpAnyH_done (by kernel_rfl) ?_ _
      obtain ⟨hs1, c0, c1⟩ := hHeld
      have hbw1 := hbw.step hs1
      rename World => v1
      go_wp2
      go_roundw
      case rel => exact ⟨j + 1, by omega, by go_num, by go_num, hbw1⟩
      case measure => simp [intOf]; omega
    · obtain rfl : j = n := by omega
      go_wp2
      go_ret
      exact ⟨rfl, hbw⟩

end Go.Proofs.YtiopeheockajaaaDoor
