/- The best breaks: the program's. -/
import Derived.Test.YtcaojaaooadeaaaLn18
namespace Go.Proofs.Ytcaojaaooadeaaa
open Go.RowKit Go.ChangeShapes Go.WideShapes Go.Deep
set_option linter.unusedVariables false
set_option linter.unusedSimpArgs false

theorem grown_mix9 {w wr wq : World} {M : Nat} {row : Option Nat} (h : w.grownBy wr (some M)) (hg : wr.grownBy wq row) (hr : ∀ j, row = some j → w.heap.size ≤ j) : w.grownBy wq (some M) :=
  ⟨hg.os.trans h.os, hg.tape.trans h.tape, hg.output.trans h.output, Nat.le_trans h.size hg.size, fun k hk hne => (hg.block k (Nat.lt_of_lt_of_le hk h.size) (fun e => by have := hr k e.symm; omega)).trans (h.block k hk hne)⟩
theorem below_mix9 {B M : Nat} {a w w' : World} (h : Below B a w) (hg : w.grownBy w' (some M)) (hB : B ≤ w.heap.size) (hM : B ≤ M) : Below B a w' := h.grown hg hB (fun j hj => by cases hj; exact hM)
set_option maxRecDepth 100000 in
set_option maxHeartbeats 2400000 in
/-- No words. -/
theorem ending0 (A : Option Addr) (c : Nat) (W M : Nat) (hW : W ≤ 80) (w : World) (hM : MapIs encN w M []) :
    Calls Try.prog 51 #[.agg #[.slice A 0 c, .int .i64 (W : Int), .map (some M)], .int .i64 0] w (EnOut W [] 0 M [] w) := by
  have hval : Hid ((valOf 0 ([] : List (Nat × Value))).getD (.agg #[.int .i64 0, .int .i64 0]) = .agg #[.int .i64 0, .int .i64 0]) := Lib.hid rfl
  have hok : Hid ((valOf 0 ([] : List (Nat × Value))).isSome = false) := Lib.hid rfl
  have hM2 := hM.grown9 (below_a2 w (.cells #[.slice A 0 c, .int .i64 (W : Int), .map (some M)] 59) (.cells #[.int .i64 0, .int .i64 0] 61))
  have hbA := below_a3 w (.cells #[.slice A 0 c, .int .i64 (W : Int), .map (some M)] 59) (.cells #[.int .i64 0, .int .i64 0] 61) (.cells #[.int .i64 0, .int .i64 0] 61)
  have hxA : (((w.alloc (.cells #[.slice A 0 c, .int .i64 (W : Int), .map (some M)] 59)).alloc (.cells #[.int .i64 0, .int .i64 0] 61)).alloc (.cells #[.int .i64 0, .int .i64 0] 61)).heap[w.heap.size]? = some (.cells #[.slice A 0 c, .int .i64 (W : Int), .map (some M)] 59) := by
    rw [Lib.alloc_old _ _ _ (by simp <;> omega), Lib.alloc_old _ _ _ (by simp)]; exact heap_alloc_new _ _
  have hrA : (((w.alloc (.cells #[.slice A 0 c, .int .i64 (W : Int), .map (some M)] 59)).alloc (.cells #[.int .i64 0, .int .i64 0] 61)).alloc (.cells #[.int .i64 0, .int .i64 0] 61)).heap[w.heap.size + 1]? = some (.cells #[.int .i64 0, .int .i64 0] 61) := by
    rw [Lib.alloc_old _ _ _ (by simp)]
    have := heap_alloc_new (w.alloc (.cells #[.slice A 0 c, .int .i64 (W : Int), .map (some M)] 59)) (.cells #[.int .i64 0, .int .i64 0] 61)
    simpa using this
  have hsA : w.heap.size + 2 < (((w.alloc (.cells #[.slice A 0 c, .int .i64 (W : Int), .map (some M)] 59)).alloc (.cells #[.int .i64 0, .int .i64 0] 61)).alloc (.cells #[.int .i64 0, .int .i64 0] 61)).heap.size := by simp <;> omega
  have hMl := hM.lt
  have hfa := Lib.hid (fun W' A' c' => fit9_impl A' 0 c' [] W (by omega) W' ⟨rfl, fun h => absurd h (by omega)⟩ (by omega) (by omega) (by simp))
  rw [show fitN W [] = 0 from rfl] at hfa
  have hEV : Hid (endV W [] 0 = .agg #[.int .i64 0, .int .i64 0]) := Lib.hid rfl
  have hM0 := Lib.hid hM
  clear hM
  go_enter Try.func51, Try.ntmps51
  go_wp2_with (at_lookup; refine wpList_look_is rfl _ _ _ 3 61 rfl natKey9 Try.underlying57 (zero_end9 _) rfl hM2 0 rfl hval.out hok.out ?_)
  clear hM2
  generalize hwA : ((w.alloc (.cells #[.slice A 0 c, .int .i64 (W : Int), .map (some M)] 59)).alloc (.cells #[.int .i64 0, .int .i64 0] 61)).alloc (.cells #[.int .i64 0, .int .i64 0] 61) = wA at *
  clear hwA
  have a0 : wA.cell? ⟨w.heap.size, 0, none⟩ = some (.slice A 0 c) := own_cell hxA rfl
  have a1 : wA.cell? ⟨w.heap.size, 1, none⟩ = some (.int .i64 (W : Int)) := own_cell hxA rfl
  go_wp2_with fail
  refine wp_region_held_drew (S := fun w' => Below wA.heap.size wA w' ∧ w'.cell? ⟨w.heap.size, 0, none⟩ = some (.slice A 0 c) ∧ w'.cell? ⟨w.heap.size, 1, none⟩ = some (.int .i64 (W : Int))) (by kernel_rfl) ?_ (fun hHeld => ?_)
  · exact ⟨(Below.refl _ _).drew, a0, a1⟩
  refine wpAnyH_take (i := 0) (v := ?vaU1_0) rfl (by kernel_rfl) (by kernel_rfl) (by kernel_rfl) (fun _ _ _ h => h) (Or.inl ⟨rfl, ?yaU1_0⟩) (by assumption) ?_
  case yaU1_0 => (intro w hSw; (try dsimp only at hSw); go_simp; first | done | with_reducible rfl)
  simp only [List.getElem_toArray, List.getElem_cons_succ, List.getElem_cons_zero, Act.put, List.setIfInBounds_toArray, List.set_cons_zero, List.set_cons_succ]
  refine wpAnyH_take (i := 1) (v := ?vaU1_1) rfl (by kernel_rfl) (by kernel_rfl) (by kernel_rfl) (fun _ _ _ h => h) (Or.inl ⟨rfl, ?yaU1_1⟩) (by assumption) ?_
  case yaU1_1 => (intro w hSw; (try dsimp only at hSw); go_simp; first | done | with_reducible rfl)
  simp only [List.getElem_toArray, List.getElem_cons_succ, List.getElem_cons_zero, Act.put, List.setIfInBounds_toArray, List.set_cons_zero, List.set_cons_succ]
  refine wpAnyH_take (i := 2) (v := ?vaU1_2) rfl (by kernel_rfl) (by kernel_rfl) (by kernel_rfl) (fun _ _ _ h => h) (Or.inl ⟨rfl, ?yaU1_2⟩) (by assumption) ?_
  case yaU1_2 => (intro w hSw; (try dsimp only at hSw); go_simp; first | done | with_reducible rfl)
  simp only [List.getElem_toArray, List.getElem_cons_succ, List.getElem_cons_zero, Act.put, List.setIfInBounds_toArray, List.set_cons_zero, List.set_cons_succ]
  refine wpAnyH_take (i := 3) (v := ?vaU1_3) rfl (by kernel_rfl) (by kernel_rfl) (by kernel_rfl) (fun _ _ _ h => h) (Or.inl ⟨rfl, ?yaU1_3⟩) (by assumption) ?_
  case yaU1_3 => (intro w hSw; (try dsimp only at hSw); go_simp; first | done | with_reducible rfl)
  simp only [List.getElem_toArray, List.getElem_cons_succ, List.getElem_cons_zero, Act.put, List.setIfInBounds_toArray, List.set_cons_zero, List.set_cons_succ]
  refine wpAnyH_take (i := 4) (v := ?vaU1_4) rfl (by kernel_rfl) (by kernel_rfl) (by kernel_rfl) (fun _ _ _ h => h) (Or.inl ⟨rfl, ?yaU1_4⟩) (by assumption) ?_
  case yaU1_4 => (intro w hSw; (try dsimp only at hSw); go_simp; first | done | with_reducible rfl)
  simp only [List.getElem_toArray, List.getElem_cons_succ, List.getElem_cons_zero, Act.put, List.setIfInBounds_toArray, List.set_cons_zero, List.set_cons_succ]
  refine wpAnyH_take (i := 5) (v := ?vaU1_5) rfl (by kernel_rfl) (by kernel_rfl) (by kernel_rfl) (fun _ _ _ h => h) (Or.inl ⟨rfl, ?yaU1_5⟩) (by assumption) ?_
  case yaU1_5 => (intro w hSw; (try dsimp only at hSw); go_simp; first | done | with_reducible rfl)
  simp only [List.getElem_toArray, List.getElem_cons_succ, List.getElem_cons_zero, Act.put, List.setIfInBounds_toArray, List.set_cons_zero, List.set_cons_succ]
  refine wpAnyH_take (i := 6) (v := ?vaU1_6) rfl (by kernel_rfl) (by kernel_rfl) (by kernel_rfl) (fun _ _ _ h => h) (Or.inl ⟨rfl, ?yaU1_6⟩) (by assumption) ?_
  case yaU1_6 => (intro w hSw; (try dsimp only at hSw); go_simp; first | done | with_reducible rfl)
  simp only [List.getElem_toArray, List.getElem_cons_succ, List.getElem_cons_zero, Act.put, List.setIfInBounds_toArray, List.set_cons_zero, List.set_cons_succ]
  refine wpAnyH_ready (rs := [7]) (by kernel_rfl) (by simp) ?_
  refine AllReadyH.cons rfl (fun K hK => ?_) AllReadyH.nil
  go_simp
  refine (hfa.out _ _ _).mono ?_
  rintro e wB ⟨rfl, hbB⟩
  go_wp2_with fail
  refine hK.out _ _ ?_ (fun hHeld => ?_)
  · exact ⟨hHeld.1.step hbB, cell_step hHeld.2.1 hbB, cell_step hHeld.2.2 hbB⟩
  clear hK K
  try simp only [List.getElem_toArray, List.getElem_cons_succ, List.getElem_cons_zero, Act.put, List.setIfInBounds_toArray, List.set_cons_zero, List.set_cons_succ]
  refine wpAnyH_take (i := 8) (v := ?vaU1_8) rfl (by kernel_rfl) (by kernel_rfl) (by kernel_rfl) (fun _ _ _ h => h) (Or.inl ⟨rfl, ?yaU1_8⟩) (by assumption) ?_
  case yaU1_8 => (intro w hSw; (try dsimp only at hSw); go_simp; first | done | with_reducible rfl)
  simp only [List.getElem_toArray, List.getElem_cons_succ, List.getElem_cons_zero, Act.put, List.setIfInBounds_toArray, List.set_cons_zero, List.set_cons_succ]
  refine wpAnyH_take (i := 9) (v := ?vaU1_9) rfl (by kernel_rfl) (by kernel_rfl) (by kernel_rfl) (fun _ _ _ h => h) (Or.inl ⟨rfl, ?yaU1_9⟩) (by assumption) ?_
  case yaU1_9 => (intro w hSw; (try dsimp only at hSw); go_simp; first | done | with_reducible rfl)
  simp only [List.getElem_toArray, List.getElem_cons_succ, List.getElem_cons_zero, Act.put, List.setIfInBounds_toArray, List.set_cons_zero, List.set_cons_succ]
  refine wpAnyH_done (by kernel_rfl) ?_ _
  have hbB := hHeld.1
  have e0 : wB.heap[w.heap.size]? = _ := (hbB.block _ (own_lt hxA)).trans hxA
  have e1 : wB.heap[w.heap.size + 1]? = _ := (hbB.block _ (own_lt hrA)).trans hrA
  have hzB := Nat.lt_of_lt_of_le hsA hbB.size
  have q0 : w.heap.size < wB.heap.size := by omega
  have q1 : w.heap.size + 1 < wB.heap.size := by omega
  have c0 : wB.cell? ⟨w.heap.size, 0, none⟩ = some (.slice A 0 c) := own_cell e0 rfl
  have c2 : wB.cell? ⟨w.heap.size, 2, none⟩ = some (.map (some M)) := own_cell e0 rfl
  have hM9 : MapIs encN (wB.alloc (.cells #[.int .i64 0, .int .i64 0] 61)) M [] := (hM0.out.grown9 (hbA.step hbB)).grown9 (below_a1 _ _)
  have hg9 : w.grownBy (wB.alloc (.cells #[.int .i64 0, .int .i64 0] 61)) (some M) := grown_below ((hbA.step hbB).step (below_a1 _ _)) _
  have e1' : (wB.alloc (.cells #[.int .i64 0, .int .i64 0] 61)).heap[w.heap.size + 1]? = some (.cells #[.int .i64 0, .int .i64 0] 61) := by rw [Lib.alloc_old _ _ _ (own_lt e1)]; exact e1
  have e2' : (wB.alloc (.cells #[.int .i64 0, .int .i64 0] 61)).heap[wB.heap.size]? = some (.cells #[.int .i64 0, .int .i64 0] 61) := heap_alloc_new _ _
  replace hg9 := Lib.hid hg9
  replace e1' := Lib.hid e1'
  replace e2' := Lib.hid e2'
  clear hHeld a0 a1 hbA hxA hrA hsA hbB e0 e1
  go_wp2_with (at_mapUpdate; refine wpList_put_is rfl _ _ _ _ 3 61 rfl natKey9 Try.underlying57 rfl hM9 0 (.agg #[.int .i64 0, .int .i64 0]) rfl rfl rfl ?_)
  intro w5 m5 hg5
  have k1 := (hg5.block _ (own_lt e1'.out) (by simp; omega)).trans e1'.out
  have k2 := (hg5.block _ (own_lt e2'.out) (by simp; omega)).trans e2'.out
  have d0 : w5.cell? ⟨wB.heap.size, 0, none⟩ = some (.int .i64 0) := own_cell k2 rfl
  have d1 : w5.cell? ⟨wB.heap.size, 1, none⟩ = some (.int .i64 0) := own_cell k2 rfl
  have d2 : w5.cell? ⟨w.heap.size + 1, 0, none⟩ = some (.int .i64 0) := own_cell k1 rfl
  have d3 : w5.cell? ⟨w.heap.size + 1, 1, none⟩ = some (.int .i64 0) := own_cell k1 rfl
  have d4 := own_frozen k1 0
  have d5 := own_frozen k1 1
  have d6 := own_lt k1
  have d7 := own_lt k2
  have hfin := Lib.hid (fun w9 (e9 : w9 = (w5.setCell ⟨w.heap.size + 1, 0, none⟩ (.int .i64 0)).setCell ⟨w.heap.size + 1, 1, none⟩ (.int .i64 0)) => show w9.cell? ⟨w.heap.size + 1, 0, none⟩ = some (.int .i64 0) ∧ w9.cell? ⟨w.heap.size + 1, 1, none⟩ = some (.int .i64 0) ∧ EnOut W [] 0 M [] w (.returned (.agg #[.int .i64 0, .int .i64 0])) w9 by
    have s1 := heap_setCell_same w5 _ 0 _ _ (.int .i64 0) k1
    have s2 := heap_setCell_same _ _ 1 _ _ (.int .i64 0) s1
    rw [← e9] at s2
    refine ⟨own_cell s2 rfl, own_cell s2 rfl, by rw [hEV.out], _, ?_, MInv.put (l := []) (i := 0) (fun k v hv => by cases hv), fun j hj => absurd hj (by omega), ?_⟩
    · subst e9
      rw [hEV.out]
      exact m5.block ((Below.heap_setCell _ _ _ _ (by simp only; omega)).trans (Below.heap_setCell _ _ _ _ (by simp only; omega)))
    · subst e9
      exact grown_set9 (grown_set9 (grown_trans hg9.out hg5) (by simp only; omega)) (by simp only; omega))
  clear m5 hg5 k1 k2
  go_wp2
  obtain ⟨z0, z1, z2⟩ := hfin.out _ rfl
  generalize (w5.setCell ⟨w.heap.size + 1, 0, none⟩ (.int .i64 0)).setCell ⟨w.heap.size + 1, 1, none⟩ (.int .i64 0) = w9 at *
  refine bodyPost_ret (v := .agg #[.int .i64 0, .int .i64 0]) (by simp [results, Try.results51, go_sem, z0, z1]) rfl ?_
  exact z2
theorem end_nil {W : Nat} : bestL W [] = [] ∧ (endE W [] 0).1 = 0 ∧ (endE W [] 0).2 = 0 := ⟨rfl, rfl, rfl⟩
theorem MInv.nil9 {W : Nat} {ws : List ByteArray} : MInv W ws [] := fun k v hv => by cases hv

set_option maxRecDepth 100000 in
set_option maxHeartbeats 3200000 in
theorem bb9_implC (A : Option Addr) (n c : Nat) (ws : List ByteArray) (wd : Int) (w : World) (h : Strs w A n ws) (hn : n ≤ 1048576) (hc : n ≤ c) (hg : ∀ x ∈ ws, x.size ≤ maxLen) :
    Calls Try.prog 26 #[.slice A n c, .int .i64 wd] w (IOut3 (bbR ws wd) w) := by
  generalize hr : bbR ws wd = r
  replace hr := Lib.hid hr.symm
  have hl := Lib.hid h.1
  cases h1 : okW ws wd with
  | false =>
    have hbad : Hid (r = ([], 0, 1)) := Lib.hid (by rw [hr.out, bbR_bad h1])
    have hc1 := Lib.hid (vt9_implV A n c ws wd h1 w h hn hg)
    clear h1 hr h hg
    go_enter Try.func26, Try.ntmps26
    go_wp2_with fail
    refine hc1.out.mono ?_
    rintro e w1 ⟨rfl, hb1⟩
    go_wp2
    go_ret3
    exact IOut3.bad hbad.out hb1
  | true =>
    obtain ⟨n40, wd1, w80, hws⟩ := okW_ok h1
    obtain ⟨W, rfl⟩ : ∃ W : Nat, wd = (W : Int) := ⟨wd.toNat, by omega⟩
    rw [hl.out] at n40
    have hgood : Hid (r = (bestL W ws, (endE W ws 0).1, 0)) := Lib.hid (by rw [hr.out, bbR_good h1])
    have hc1 := Lib.hid (vt9_implV A n c ws W h1 w h hn hg)
    have hss : ∀ x ∈ ws, x.size ≤ W := fun x hx => by have := (hws x hx).2.1; omega
    have hW80 : W ≤ 80 := by omega
    have hmm := @run_makeMap Try.prog
    by_cases hn0 : n = 0
    · have hz : ws = [] := List.length_eq_zero_iff.1 (by rw [hl.out]; exact hn0)
      subst hz hn0
      have hbad : Hid (r = ([], 0, 0)) := Lib.hid (by rw [hgood.out, end_nil.1, end_nil.2.1])
      clear h1 hr hg hws hss h
      go_enter Try.func26, Try.ntmps26
      go_wp2_with fail
      refine hc1.out.mono ?_
      rintro e w1 ⟨rfl, hb1⟩
      have hM1 : MapIs encN ((w1.alloc (.map #[] 0)).alloc (.cells #[.slice A 0 c, .int .i64 (W : Int), .map (some w1.heap.size)] 59)) w1.heap.size [] := (MapIs.made w1).grown9 (below_a1 _ _)
      have hen := Lib.hid (ending0 A c W w1.heap.size hW80 _ hM1)
      have hb2 := Lib.hid (hb1.step (below_a2 w1 (.map #[] 0) (.cells #[.slice A 0 c, .int .i64 (W : Int), .map (some w1.heap.size)] 59)))
      have hzz := Lib.hid hb1.size
      have hsz2 : Hid (w1.heap.size < ((w1.alloc (.map #[] 0)).alloc (.cells #[.slice A 0 c, .int .i64 (W : Int), .map (some w1.heap.size)] 59)).heap.size) := Lib.hid (by simp <;> omega)
      clear hM1 hb1
      go_wp2_with fail
      refine hen.out.mono ?_
      rintro e w2 ⟨rfl, l2, m2, i2, v2, hg2⟩
      have hb3 := Lib.hid ((below_mix9 hb2.out hg2 (by have := hb2.out.size; omega) hzz.out).step (below_a1 w2 (.cells #[.int .i64 0, .int .i64 0] 61)))
      rw [show endV W [] 0 = .agg #[.int .i64 0, .int .i64 0] from rfl]
      clear hen hg2
      go_wp2
      go_loopw [9, 10] (fun v nx wr => v = .slice none 0 0 ∧ nx = .int .i64 0 ∧ wr = w2.alloc (.cells #[.int .i64 0, .int .i64 0] 61)) (fun _ _ _ => 0)
      case atStart => exact ⟨rfl, rfl, rfl⟩
      case round =>
        rename World => wr
        obtain ⟨rfl, rfl, rfl⟩ := hrel
        have c00 : (w2.alloc (.cells #[.int .i64 0, .int .i64 0] 61)).cell? ⟨w2.heap.size, 0, none⟩ = some (.int .i64 0) := cell_new rfl rfl
        go_wp2_with fail
        refine wp_region_held_drew (S := fun w' => w'.cell? ⟨w2.heap.size, 0, none⟩ = some (.int .i64 0)) (by kernel_rfl) ?_ (fun hHeld => ?_)
        · exact c00
        refine wpAnyH_take (i := 0) (v := ?veU2_0) rfl (by kernel_rfl) (by kernel_rfl) (by kernel_rfl) (fun _ _ _ h => h) (Or.inl ⟨rfl, ?yeU2_0⟩) (by assumption) ?_
        case yeU2_0 => (intro w hSw; (try dsimp only at hSw); go_simp; first | done | with_reducible rfl)
        simp only [List.getElem_toArray, List.getElem_cons_succ, List.getElem_cons_zero, Act.put, List.setIfInBounds_toArray, List.set_cons_zero, List.set_cons_succ]
        refine wpAnyH_take (i := 1) (v := ?veU2_1) rfl (by kernel_rfl) (by kernel_rfl) (by kernel_rfl) (fun _ _ _ h => h) (Or.inl ⟨rfl, ?yeU2_1⟩) (by assumption) ?_
        case yeU2_1 => (intro w hSw; (try dsimp only at hSw); go_simp; first | done | with_reducible rfl)
        simp only [List.getElem_toArray, List.getElem_cons_succ, List.getElem_cons_zero, Act.put, List.setIfInBounds_toArray, List.set_cons_zero, List.set_cons_succ]
        refine wpAnyH_take (i := 2) (v := ?veU2_2) rfl (by kernel_rfl) (by kernel_rfl) (by kernel_rfl) (fun _ _ _ h => h) (Or.inl ⟨rfl, ?yeU2_2⟩) (by assumption) ?_
        case yeU2_2 => (intro w hSw; (try dsimp only at hSw); go_simp; first | done | with_reducible rfl)
        simp only [List.getElem_toArray, List.getElem_cons_succ, List.getElem_cons_zero, Act.put, List.setIfInBounds_toArray, List.set_cons_zero, List.set_cons_succ]
        refine wpAnyH_take (i := 3) (v := ?veU2_3) rfl (by kernel_rfl) (by kernel_rfl) (by kernel_rfl) (fun _ _ _ h => h) (Or.inl ⟨rfl, ?yeU2_3⟩) (by assumption) ?_
        case yeU2_3 => (intro w hSw; (try dsimp only at hSw); go_simp; first | done | with_reducible rfl)
        simp only [List.getElem_toArray, List.getElem_cons_succ, List.getElem_cons_zero, Act.put, List.setIfInBounds_toArray, List.set_cons_zero, List.set_cons_succ]
        refine wpAnyH_take (i := 4) (v := ?veU2_4) rfl (by kernel_rfl) (by kernel_rfl) (by kernel_rfl) (fun _ _ _ h => h) (Or.inl ⟨rfl, ?yeU2_4⟩) (by assumption) ?_
        case yeU2_4 => (intro w hSw; (try dsimp only at hSw); go_simp; first | done | with_reducible rfl)
        simp only [List.getElem_toArray, List.getElem_cons_succ, List.getElem_cons_zero, Act.put, List.setIfInBounds_toArray, List.set_cons_zero, List.set_cons_succ]
        refine wpAnyH_take (i := 5) (v := ?veU2_5) rfl (by kernel_rfl) (by kernel_rfl) (by kernel_rfl) (fun _ _ _ h => h) (Or.inl ⟨rfl, ?yeU2_5⟩) (by assumption) ?_
        case yeU2_5 => (intro w hSw; (try dsimp only at hSw); go_simp; first | done | with_reducible rfl)
        simp only [List.getElem_toArray, List.getElem_cons_succ, List.getElem_cons_zero, Act.put, List.setIfInBounds_toArray, List.set_cons_zero, List.set_cons_succ]
        refine wpAnyH_done (by kernel_rfl) ?_ _
        go_wp2
        go_ret3
        exact IOut3.bad hbad.out hb3.out.drew
    · obtain ⟨b, off, rfl, hbl, _⟩ := h.2 (by omega)
      have hlen9 : ws.length ≤ 900 := by rw [hl.out]; omega
      have hnx := Lib.hid (fun i (hi : i < n) => next_E hW80 hss hlen9 (i := i) (show i < ws.length by rw [hl.out]; exact hi))
      have hts := Lib.hid (fun f a h1 h2 => tailE_step (W := W) (ws := ws) (f := f) (a := a) h1 h2)
      have hbt := Lib.hid (bestL_tail (W := W) (ws := ws))
      have hnp : 0 < n := by omega
      have hmk := Lib.hid (fun i hi M w' l' => ending9 b off n c ws W M hW80 (by omega) hc hl.out hss (n - i) i rfl hi w' l')
      obtain ⟨i0, hi, hz0, hz1, hz2⟩ := info_parts Try.infoI64
      replace hn0 := Lib.hid hn0
      clear h1 hr hg hws hss
      go_enter Try.func26, Try.ntmps26
      go_wp2_with fail
      refine hc1.out.mono ?_
      rintro e w1 ⟨rfl, hb1⟩
      have hS1 := h.below hb1
      have hblt1 := (strs_cells hS1 (by omega)).1
      have hM1 : MapIs encN ((w1.alloc (.map #[] 0)).alloc (.cells #[.slice (some ⟨b, off, none⟩) n c, .int .i64 (W : Int), .map (some w1.heap.size)] 59)) w1.heap.size [] := (MapIs.made w1).grown9 (below_a1 _ _)
      have hS2 := hS1.below (below_a2 w1 (.map #[] 0) (.cells #[.slice (some ⟨b, off, none⟩) n c, .int .i64 (W : Int), .map (some w1.heap.size)] 59))
      have hen := Lib.hid (hmk.out 0 hnp w1.heap.size _ [] hM1 MInv.nil9 hS2 (by omega))
      have hb2 := Lib.hid (hb1.step (below_a2 w1 (.map #[] 0) (.cells #[.slice (some ⟨b, off, none⟩) n c, .int .i64 (W : Int), .map (some w1.heap.size)] 59)))
      have hbox : Hid (((w1.alloc (.map #[] 0)).alloc (.cells #[.slice (some ⟨b, off, none⟩) n c, .int .i64 (W : Int), .map (some w1.heap.size)] 59)).heap[w1.heap.size + 1]? = some (.cells #[.slice (some ⟨b, off, none⟩) n c, .int .i64 (W : Int), .map (some w1.heap.size)] 59)) := Lib.hid (by
        have := heap_alloc_new (w1.alloc (.map #[] 0)) (.cells #[.slice (some ⟨b, off, none⟩) n c, .int .i64 (W : Int), .map (some w1.heap.size)] 59)
        simpa using this)
      have hzz := Lib.hid hb1.size
      obtain ⟨E0, hE0⟩ : ∃ E, (endE W ws 0).1 = E := ⟨_, rfl⟩
      obtain ⟨p0, hp0⟩ : ∃ p, (endE W ws 0).2 = p := ⟨_, rfl⟩
      have hev : endV W ws 0 = .agg #[.int .i64 E0, .int .i64 (p0 : Int)] := by rw [endV, hE0, hp0]
      have hp0n := hnx.out 0 hnp
      rw [hp0, hl.out] at hp0n
      unfold EnOut at hen
      rw [hev] at hen
      replace hev := Lib.hid hev
      have hS20 := Lib.hid hS2
      clear hM1 hb1 h hS1 hS2
      go_wp2_with fail
      refine hen.out.mono ?_
      rintro e w2 ⟨rfl, l2, m2, i2, v2, hg2⟩
      have hx2 := (hg2.block _ (own_lt hbox.out) (by simp)).trans hbox.out
      have hb3 := Lib.hid ((below_mix9 hb2.out hg2 (by have := hb2.out.size; omega) hzz.out).step (below_a1 w2 (.cells #[.int .i64 E0, .int .i64 (p0 : Int)] 61)))
      have hS3 : Strs (w2.alloc (.cells #[.int .i64 E0, .int .i64 (p0 : Int)] 61)) (some ⟨b, off, none⟩) n ws := (SRow.kept (B := some ⟨w1.heap.size, 0, none⟩) hS20.out hg2 (fun p q hp hq => by cases hp; cases hq; simp only; omega)).below (below_a1 _ _)
      have hx3 : (w2.alloc (.cells #[.int .i64 E0, .int .i64 (p0 : Int)] 61)).heap[w1.heap.size + 1]? = some (.cells #[.slice (some ⟨b, off, none⟩) n c, .int .i64 (W : Int), .map (some w1.heap.size)] 59) := by rw [Lib.alloc_old _ _ _ (own_lt hx2)]; exact hx2
      have hf3 : (w2.alloc (.cells #[.int .i64 E0, .int .i64 (p0 : Int)] 61)).heap[w2.heap.size]? = some (.cells #[.int .i64 E0, .int .i64 (p0 : Int)] 61) := heap_alloc_new _ _
      have m3 := m2.grown9 (below_a1 w2 (.cells #[.int .i64 E0, .int .i64 (p0 : Int)] 61))
      have hml := m2.lt
      have hne : w2.heap.size ≠ w1.heap.size := by omega
      replace hx3 := Lib.hid hx3
      replace hf3 := Lib.hid hf3
      replace hS3 := Lib.hid hS3
      replace m3 := Lib.hid m3
      clear hen hg2 m2 v2 hx2 hS20 hbox
      go_wp2
      generalize hwL : w2.alloc (.cells #[.int .i64 E0, .int .i64 (p0 : Int)] 61) = wL at *
      clear hwL
      go_loopw [9, 10] (fun v nx wr => ∃ (p f : Nat) (out : List Int) (l' : List (Nat × Value)), nx = .int .i64 (p : Int) ∧ 1 ≤ p ∧ p ≤ n ∧ n - p ≤ f ∧ out.length < p ∧ bestL W ws = out ++ tailE W ws f p ∧ MapIs encN wr w1.heap.size l' ∧ MInv W ws l' ∧ wL.grownBy wr (some w1.heap.size) ∧ wr.ownsRow wL.heap.size 2 1 v out.length (out.flatMap intC)) (fun _ nx _ => n - (intOf nx).toNat)
      case atStart => exact ⟨p0, n - 1, [], l2, rfl, by omega, by omega, by omega, by simp; omega, by rw [hbt.out, hl.out, hp0]; rfl, m3.out, i2, grown_refl _ _, owns_nil8 _ _ _⟩
      case round =>
        rename World => wr
        obtain ⟨p, f, out, l', rfl, hp1, hpn, hf, hol, hout, hMr, hir, hgr, hrow⟩ := hrel
        replace hout := Lib.hid hout
        have xr := (hgr.block _ (own_lt hx3.out) (by simp)).trans hx3.out
        have fr := (hgr.block _ (own_lt hf3.out) (by simp; omega)).trans hf3.out
        have hzr := hgr.size
        by_cases hlt : p < n
        · have hnp2 := hnx.out p hlt
          have hstp := hts.out f p (by rw [hl.out]; exact hlt) (by rw [hl.out]; exact hf)
          obtain ⟨E1, hE1⟩ : ∃ E, (endE W ws p).1 = E := ⟨_, rfl⟩
          obtain ⟨p1, hp11⟩ : ∃ q, (endE W ws p).2 = q := ⟨_, rfl⟩
          have hev1 : endV W ws p = .agg #[.int .i64 E1, .int .i64 (p1 : Int)] := by rw [endV, hE1, hp11]
          rw [hp11, hl.out] at hnp2
          rw [hp11] at hstp
          have hnxt : Hid (bestL W ws = (out ++ [(p : Int)]) ++ tailE W ws (f - 1) p1) := Lib.hid (by rw [hout.out, hstp]; simp)
          have hsn := Lib.hid (snoc8 out (p : Int))
          have hSr : Strs wr (some ⟨b, off, none⟩) n ws := SRow.kept (B := some ⟨w1.heap.size, 0, none⟩) hS3.out hgr (fun p q hp hq => by cases hp; cases hq; simp only; omega)
          have hfd : ∀ (v : World), (Instr.field 61 (.agg #[.int .i64 E1, .int .i64 (p1 : Int)]) 1).run Try.prog v = .ok (.int .i64 (p1 : Int)) v := fun v => by kernel_rfl
          have hrl := Lib.hid hrow
          replace hE1 := Lib.hid hE1
          replace hp11 := Lib.hid hp11
          have hMr0 := Lib.hid hMr
          have hSr0 := Lib.hid hSr
          have hml2 := hMr.lt
          have hpi : (p : Int) < (n : Int) := by omega
          have xr0 := Lib.hid xr
          clear hstp hrow hMr hSr xr fr
          go_wp2_with (at_builtin; refine wpList_append_own _ rfl _ _ 27 rfl wL.heap.size 2 i0 _ 1 8 Try.underlying27 hi hz0 hz1 hz2 rfl (by decide) _ _ _ rfl (hrl.out.alloc _) ⟨wr.heap.size, 0, none⟩ 1 1 [.int .i64 (p : Int)] rfl rfl (news8 _ _ _) (one8 _) (by unfold maxLen; omega) (by omega) (by simp; omega) ?_)
          intro vq wq hownq hgrq hnilq
          have hgq := grown_trans (grown_below (below_a1 wr _) _) hgrq
          have hob : ∀ j, (fun x : Option Nat => x) (some j) = some j → True := fun _ _ => trivial
          have hrow2 : Hid (wq.ownsRow wL.heap.size 2 1 vq (out.length + 1) ((out ++ [(p : Int)]).flatMap intC)) := Lib.hid (by rw [hsn.out]; exact hownq)
          have hgL : Hid (wL.grownBy wq (some w1.heap.size)) := Lib.hid (grown_mix9 hgr hgq (fun j hj => owns_ge8 hrl.out hj))
          have hMq : MapIs encN wq w1.heap.size l' := hMr0.out.block (hgq.block _ hml2 (fun e => by have := owns_ge8 hrl.out e.symm; have := m3.out.lt; omega))
          have xq : wq.heap[w1.heap.size + 1]? = _ := (hgL.out.block _ (own_lt hx3.out) (by simp)).trans hx3.out
          have x0 : wq.cell? ⟨w1.heap.size + 1, 0, none⟩ = some (.slice (some ⟨b, off, none⟩) n c) := own_cell xq rfl
          have x1 : wq.cell? ⟨w1.heap.size + 1, 1, none⟩ = some (.int .i64 (W : Int)) := own_cell xq rfl
          have x2 : wq.cell? ⟨w1.heap.size + 1, 2, none⟩ = some (.map (some w1.heap.size)) := own_cell xq rfl
          have hSq : Strs wq (some ⟨b, off, none⟩) n ws := SRow.kept (B := some ⟨w1.heap.size, 0, none⟩) hS3.out hgL.out (fun p q hp hq => by cases hp; cases hq; simp only; omega)
          have hen := hmk.out p hlt w1.heap.size wq l' hMq hir hSq (by omega)
          unfold EnOut at hen
          rw [hev1] at hen
          replace hen := Lib.hid hen
          replace hev1 := Lib.hid hev1
          clear hownq hgrq hnilq hgq hMq hSq hob hgr
          go_wp2_with fail
          refine hen.out.mono ?_
          rintro e w5 ⟨rfl, l6, m6, i6, v6, hg6⟩
          have hgL6 := Lib.hid (grown_trans hgL.out hg6)
          have hrow6 := Lib.hid (hrow2.out.kept hg6 (by
            cases hb : vq.ownBlock with
            | none => exact .inl rfl
            | some j => right; intro e; cases e; have := owns_ge8 hrow2.out hb; have := m3.out.lt; omega))
          have m60 := Lib.hid m6
          clear hen hg6 v6 hrl x0 x1 x2 m6
          go_wp2
          go_roundw
          case rel => exact ⟨p1, f - 1, out ++ [(p : Int)], l6, by go_num, by omega, by omega, by omega, by simp; omega, hnxt.out, m60.out, i6, hgL6.out, by rw [List.length_append]; exact hrow6.out⟩
          case measure => simp [intOf]; omega
        · have hfin : Hid (bestL W ws = out) := Lib.hid (by rw [hout.out, tailE_end (by rw [hl.out]; omega), List.append_nil])
          obtain ⟨A9, c9, rfl, hO9⟩ := owns_i8 rfl hrow
          have hO90 := Lib.hid hO9
          have c00 : wr.cell? ⟨w2.heap.size, 0, none⟩ = some (.int .i64 E0) := own_cell fr rfl
          have hbe := Lib.hid (below_mix9 hb3.out hgr (by have := hb3.out.size; omega) hzz.out)
          have hpi : ¬ (p : Int) < (n : Int) := by omega
          have hzL := Lib.hid hb3.out.size
          clear hrow hO9 hout xr fr
          go_wp2_with fail
          refine wp_region_held_drew (S := fun w' => w'.cell? ⟨w2.heap.size, 0, none⟩ = some (.int .i64 E0)) (by kernel_rfl) ?_ (fun hHeld => ?_)
          · exact c00
          refine wpAnyH_take (i := 0) (v := ?veU3_0) rfl (by kernel_rfl) (by kernel_rfl) (by kernel_rfl) (fun _ _ _ h => h) (Or.inl ⟨rfl, ?yeU3_0⟩) (by assumption) ?_
          case yeU3_0 => (intro w hSw; (try dsimp only at hSw); go_simp; first | done | with_reducible rfl)
          simp only [List.getElem_toArray, List.getElem_cons_succ, List.getElem_cons_zero, Act.put, List.setIfInBounds_toArray, List.set_cons_zero, List.set_cons_succ]
          refine wpAnyH_take (i := 1) (v := ?veU3_1) rfl (by kernel_rfl) (by kernel_rfl) (by kernel_rfl) (fun _ _ _ h => h) (Or.inl ⟨rfl, ?yeU3_1⟩) (by assumption) ?_
          case yeU3_1 => (intro w hSw; (try dsimp only at hSw); go_simp; first | done | with_reducible rfl)
          simp only [List.getElem_toArray, List.getElem_cons_succ, List.getElem_cons_zero, Act.put, List.setIfInBounds_toArray, List.set_cons_zero, List.set_cons_succ]
          refine wpAnyH_take (i := 2) (v := ?veU3_2) rfl (by kernel_rfl) (by kernel_rfl) (by kernel_rfl) (fun _ _ _ h => h) (Or.inl ⟨rfl, ?yeU3_2⟩) (by assumption) ?_
          case yeU3_2 => (intro w hSw; (try dsimp only at hSw); go_simp; first | done | with_reducible rfl)
          simp only [List.getElem_toArray, List.getElem_cons_succ, List.getElem_cons_zero, Act.put, List.setIfInBounds_toArray, List.set_cons_zero, List.set_cons_succ]
          refine wpAnyH_take (i := 3) (v := ?veU3_3) rfl (by kernel_rfl) (by kernel_rfl) (by kernel_rfl) (fun _ _ _ h => h) (Or.inl ⟨rfl, ?yeU3_3⟩) (by assumption) ?_
          case yeU3_3 => (intro w hSw; (try dsimp only at hSw); go_simp; first | done | with_reducible rfl)
          simp only [List.getElem_toArray, List.getElem_cons_succ, List.getElem_cons_zero, Act.put, List.setIfInBounds_toArray, List.set_cons_zero, List.set_cons_succ]
          refine wpAnyH_take (i := 4) (v := ?veU3_4) rfl (by kernel_rfl) (by kernel_rfl) (by kernel_rfl) (fun _ _ _ h => h) (Or.inl ⟨rfl, ?yeU3_4⟩) (by assumption) ?_
          case yeU3_4 => (intro w hSw; (try dsimp only at hSw); go_simp; first | done | with_reducible rfl)
          simp only [List.getElem_toArray, List.getElem_cons_succ, List.getElem_cons_zero, Act.put, List.setIfInBounds_toArray, List.set_cons_zero, List.set_cons_succ]
          refine wpAnyH_take (i := 5) (v := ?veU3_5) rfl (by kernel_rfl) (by kernel_rfl) (by kernel_rfl) (fun _ _ _ h => h) (Or.inl ⟨rfl, ?yeU3_5⟩) (by assumption) ?_
          case yeU3_5 => (intro w hSw; (try dsimp only at hSw); go_simp; first | done | with_reducible rfl)
          simp only [List.getElem_toArray, List.getElem_cons_succ, List.getElem_cons_zero, Act.put, List.setIfInBounds_toArray, List.set_cons_zero, List.set_cons_succ]
          refine wpAnyH_done (by kernel_rfl) ?_ _
          go_wp2
          go_ret3
          exact IOut3.good (l := out) (by rw [hgood.out, hfin.out, hE0]) (by omega) (hO90.out.below (Below.refl _ _).drew) hzL.out hbe.out.drew
theorem bb9_impl (A : Option Addr) (n m : Nat) (ws : List ByteArray) (wd : Int) (w : World) (h : Strs w A n ws) (hn : n ≤ 1048576) (hg : ∀ x ∈ ws, strGood x) (hw : (Lit.int .i64 wd).wf = true) :
    Calls Try.prog 26 #[.slice A n n, .int .i64 wd] w (IOut3 (bbR ws wd) w) := bb9_implC A n n ws wd w h hn (Nat.le_refl _) hg
end Go.Proofs.Ytcaojaaooadeaaa
