/- Copies: the cheapest way, by the program. -/
import Derived.Test.YtlnhjknpeafgoaaCq3
import Derived.Test.YtlnhjknpeafgoaaOwn8
namespace Go.Proofs.Ytlnhjknpeafgoaa
open Go.RowKit Go.ChangeShapes Go.WideShapes Go.Deep
set_option linter.unusedVariables false
set_option linter.unusedSimpArgs false

theorem blocks2c (w : World) (a b : Obj) : ((w.alloc a).alloc b).heap[w.heap.size]? = some a ∧ ((w.alloc a).alloc b).heap[w.heap.size + 1]? = some b := by
  constructor
  · rw [heap_alloc_old _ _ (by simp), heap_alloc_new]
  · rw [show w.heap.size + 1 = (w.alloc a).heap.size by simp, heap_alloc_new]
set_option maxRecDepth 100000 in
set_option maxHeartbeats 2400000 in
theorem price13oi (c : CarbonD) (x : WaysD) (hok : caB c = true) (hox : waB x = true) (k m : Int) (h0 : 0 ≤ k) (h1 : k ≤ 500) (h2 : 0 ≤ m) (h3 : m ≤ 500) {t : Int} (ht : carV c x k + steV x m = t) (w : World) :
    Calls Try.prog 28 #[.agg #[.int .i64 c.force, .int .i64 c.loss, .int .i64 c.least, .int .i64 x.typing, .int .i64 x.sheet, .int .i64 x.stencil, .int .i64 x.pull], .agg #[.int .i64 k, .int .i64 m]] w fun e w' => e = .returned (.int .i64 t) ∧ Below w.heap.size w w' := by
  obtain ⟨⟨m0, m1⟩, k0, k1⟩ := carV_range hok hox h0 h1
  obtain ⟨s0, s1⟩ := steV_range hox h2 h3
  obtain ⟨_, _, ⟨z0, z1⟩, _⟩ := waB_iff.1 hox
  have hca := Lib.hid (fun W => typed13i c x hok hox k h0 h1 rfl W)
  have hst := Lib.hid (fun W => pulled13i c x hox m h2 h3 rfl W)
  have hr1 : 0 ≤ carV c x k ∧ carV c x k ≤ 10000000 := by unfold carV; omega
  have hr2 : 0 ≤ steV x m ∧ steV x m ≤ 10000000 := by unfold steV; split <;> omega
  generalize carV c x k = C1 at *
  generalize steV x m = S1 at *
  clear hok hox
  have hw1 : IntKind.i64.wrap (C1 + S1) = t := by rw [← ht]; exact IntWalk.i64_in _ (by omega)
  replace ht := Lib.hid ht
  obtain ⟨F, L, E⟩ := c
  obtain ⟨a, b, s, p⟩ := x
  simp only at hca hst
  obtain ⟨hA, hB⟩ := blocks2c w (.cells #[.int .i64 F, .int .i64 L, .int .i64 E, .int .i64 a, .int .i64 b, .int .i64 s, .int .i64 p] 47) (.cells #[.int .i64 k, .int .i64 m] 51)
  go_enter Try.func28, Try.ntmps28
  go_wp2_with fail
  refine wp_region_held_drew (S := fun w' => Below w.heap.size w w' ∧ w'.cell? ⟨w.heap.size, 0, none⟩ = some (.int .i64 F) ∧ w'.cell? ⟨w.heap.size, 1, none⟩ = some (.int .i64 L) ∧ w'.cell? ⟨w.heap.size, 2, none⟩ = some (.int .i64 E) ∧ w'.cell? ⟨w.heap.size, 3, none⟩ = some (.int .i64 a) ∧ w'.cell? ⟨w.heap.size, 4, none⟩ = some (.int .i64 b) ∧ w'.cell? ⟨w.heap.size, 5, none⟩ = some (.int .i64 s) ∧ w'.cell? ⟨w.heap.size, 6, none⟩ = some (.int .i64 p) ∧ w'.cell? ⟨w.heap.size + 1, 0, none⟩ = some (.int .i64 k) ∧ w'.cell? ⟨w.heap.size + 1, 1, none⟩ = some (.int .i64 m)) (by kernel_rfl) ?_ (fun hHeld => ?_)
  · exact ⟨(below_a2 _ _ _).drew, own_cell hA (o := 0) rfl, own_cell hA (o := 1) rfl, own_cell hA (o := 2) rfl, own_cell hA (o := 3) rfl, own_cell hA (o := 4) rfl, own_cell hA (o := 5) rfl, own_cell hA (o := 6) rfl, own_cell hB (o := 0) rfl, own_cell hB (o := 1) rfl⟩
  refine wpAnyH_take (i := 0) (v := ?vaU1_0) rfl (by kernel_rfl) (by kernel_rfl) (by kernel_rfl) (fun _ _ _ h => h) (Or.inl ⟨rfl, ?yaU1_0⟩) (by assumption) ?_
  case yaU1_0 => (intro w hSw; (try dsimp only at hSw); go_simp; first | done | with_reducible rfl)
  simp only [List.getElem_toArray, List.getElem_cons_succ, List.getElem_cons_zero, Act.put, List.setIfInBounds_toArray, List.set_cons_zero, List.set_cons_succ]
  refine wpAnyH_take (i := 1) (v := ?vaU1_1) rfl (by kernel_rfl) (by kernel_rfl) (by kernel_rfl) (fun _ _ _ h => h) (Or.inl ⟨rfl, ?yaU1_1⟩) (by assumption) ?_
  case yaU1_1 => (intro w hSw; (try dsimp only at hSw); go_simp; first | done | with_reducible rfl)
  simp only [List.getElem_toArray, List.getElem_cons_succ, List.getElem_cons_zero, Act.put, List.setIfInBounds_toArray, List.set_cons_zero, List.set_cons_succ]
  refine wpAnyH_take (i := 2) (v := ?vaU1_2) rfl (by kernel_rfl) (by kernel_rfl) (by kernel_rfl) (fun _ _ _ h => h) (Or.inl ⟨rfl, ?yaU1_2⟩) (by assumption) ?_
  case yaU1_2 => (intro w hSw; (try dsimp only at hSw); go_simp; first | done | with_reducible rfl)
  simp only [List.getElem_toArray, List.getElem_cons_succ, List.getElem_cons_zero, Act.put, List.setIfInBounds_toArray, List.set_cons_zero, List.set_cons_succ]
  refine wpAnyH_take (i := 4) (v := ?vaU1_4) rfl (by kernel_rfl) (by kernel_rfl) (by kernel_rfl) (fun _ _ _ h => h) (Or.inl ⟨rfl, ?yaU1_4⟩) (by assumption) ?_
  case yaU1_4 => (intro w hSw; (try dsimp only at hSw); go_simp; first | done | with_reducible rfl)
  simp only [List.getElem_toArray, List.getElem_cons_succ, List.getElem_cons_zero, Act.put, List.setIfInBounds_toArray, List.set_cons_zero, List.set_cons_succ]
  refine wpAnyH_take (i := 5) (v := ?vaU1_5) rfl (by kernel_rfl) (by kernel_rfl) (by kernel_rfl) (fun _ _ _ h => h) (Or.inl ⟨rfl, ?yaU1_5⟩) (by assumption) ?_
  case yaU1_5 => (intro w hSw; (try dsimp only at hSw); go_simp; first | done | with_reducible rfl)
  simp only [List.getElem_toArray, List.getElem_cons_succ, List.getElem_cons_zero, Act.put, List.setIfInBounds_toArray, List.set_cons_zero, List.set_cons_succ]
  refine wpAnyH_take (i := 6) (v := ?vaU1_6) rfl (by kernel_rfl) (by kernel_rfl) (by kernel_rfl) (fun _ _ _ h => h) (Or.inl ⟨rfl, ?yaU1_6⟩) (by assumption) ?_
  case yaU1_6 => (intro w hSw; (try dsimp only at hSw); go_simp; first | done | with_reducible rfl)
  simp only [List.getElem_toArray, List.getElem_cons_succ, List.getElem_cons_zero, Act.put, List.setIfInBounds_toArray, List.set_cons_zero, List.set_cons_succ]
  refine wpAnyH_ready (rs := [3]) (by kernel_rfl) (by simp) ?_
  refine AllReadyH.cons rfl (fun K hK => ?_) AllReadyH.nil
  go_simp
  refine (hca.out _).mono ?_
  rintro e w5 ⟨rfl, hb5⟩
  go_wp2_with fail
  refine hK.out _ _ ?_ (fun hHeld => ?_)
  · exact ⟨hHeld.1.step hb5, cell_step hHeld.2.1 hb5, cell_step hHeld.2.2.1 hb5, cell_step hHeld.2.2.2.1 hb5, cell_step hHeld.2.2.2.2.1 hb5, cell_step hHeld.2.2.2.2.2.1 hb5, cell_step hHeld.2.2.2.2.2.2.1 hb5, cell_step hHeld.2.2.2.2.2.2.2.1 hb5, cell_step hHeld.2.2.2.2.2.2.2.2.1 hb5, cell_step hHeld.2.2.2.2.2.2.2.2.2 hb5⟩
  clear hK K
  try simp only [List.getElem_toArray, List.getElem_cons_succ, List.getElem_cons_zero, Act.put, List.setIfInBounds_toArray, List.set_cons_zero, List.set_cons_succ]
  refine wpAnyH_ready (rs := [7]) (by kernel_rfl) (by simp) ?_
  refine AllReadyH.cons rfl (fun K hK => ?_) AllReadyH.nil
  go_simp
  refine (hst.out _).mono ?_
  rintro e w6 ⟨rfl, hb6⟩
  go_wp2_with fail
  refine hK.out _ _ ?_ (fun hHeld => ?_)
  · exact ⟨hHeld.1.step hb6, cell_step hHeld.2.1 hb6, cell_step hHeld.2.2.1 hb6, cell_step hHeld.2.2.2.1 hb6, cell_step hHeld.2.2.2.2.1 hb6, cell_step hHeld.2.2.2.2.2.1 hb6, cell_step hHeld.2.2.2.2.2.2.1 hb6, cell_step hHeld.2.2.2.2.2.2.2.1 hb6, cell_step hHeld.2.2.2.2.2.2.2.2.1 hb6, cell_step hHeld.2.2.2.2.2.2.2.2.2 hb6⟩
  clear hK K
  try simp only [List.getElem_toArray, List.getElem_cons_succ, List.getElem_cons_zero, Act.put, List.setIfInBounds_toArray, List.set_cons_zero, List.set_cons_succ]
  refine wpAnyH_take (i := 8) (v := ?vaU1_8) rfl (by kernel_rfl) (by kernel_rfl) (by kernel_rfl) (fun _ _ _ h => h) (Or.inl ⟨rfl, ?yaU1_8⟩) (by assumption) ?_
  case yaU1_8 => (intro w hSw; (try dsimp only at hSw); go_simp; first | done | with_reducible rfl)
  simp only [List.getElem_toArray, List.getElem_cons_succ, List.getElem_cons_zero, Act.put, List.setIfInBounds_toArray, List.set_cons_zero, List.set_cons_succ]
  refine wpAnyH_take (i := 9) (v := ?vaU1_9) rfl (by kernel_rfl) (by kernel_rfl) (by kernel_rfl) (fun _ _ _ h => h) (Or.inl ⟨rfl, ?yaU1_9⟩) (by assumption) ?_
  case yaU1_9 => (intro w hSw; (try dsimp only at hSw); go_simp; first | done | with_reducible rfl)
  simp only [List.getElem_toArray, List.getElem_cons_succ, List.getElem_cons_zero, Act.put, List.setIfInBounds_toArray, List.set_cons_zero, List.set_cons_succ]
  refine wpAnyH_done (by kernel_rfl) ?_ _
  have hbf := Lib.hid hHeld.1
  clear hHeld
  go_wp2
  go_ret
  exact ⟨rfl, hbf.out⟩
/-- The cells of a way: so many typed, the others pulled. -/
def copC (N : Nat) (k : Nat) : List Value := [.int .i64 (k : Int), .int .i64 ((N : Int) - (k : Int))]
theorem Try.infoCop : (Try.prog.info? 51).map (fun i => (i.zero, i.size, i.bytes)) = some (some (.agg #[.int .i64 0, .int .i64 0]), 2, 16) := by kernel_rfl
theorem news2c (w : World) (a b : Value) (T : TypeId) : ∀ j u, [a, b][j]? = some u → (w.alloc (.cells #[a, b] T)).cell? ((⟨w.heap.size, 0, none⟩ : Addr).add j) = some u := by
  intro j u hu
  match j, hu with
  | 0, hu => cases hu; exact cell_new rfl rfl
  | 1, hu => cases hu; exact cell_new rfl rfl
  | j + 2, hu => simp at hu
theorem ones2c (a b : Int) : ∀ u ∈ [Value.int .i64 a, Value.int .i64 b], u.oneCell' = true := by
  intro u hu
  simp only [List.mem_cons, List.not_mem_nil, or_false] at hu
  rcases hu with rfl | rfl <;> rfl
set_option maxRecDepth 100000 in
set_option maxHeartbeats 2400000 in
theorem cops13 (N : Nat) (hN : N ≤ 500) (w : World) : Calls Try.prog 27 #[.int .i64 (N : Int)] w fun e w' => ∃ v, e = .returned v ∧ w'.ownsRow w.heap.size 51 2 v (N + 1) ((List.range (N + 1)).flatMap (copC N)) ∧ Below w.heap.size w w' := by
  obtain ⟨i0, hi, hz0, hz1, hz2⟩ := info_parts Try.infoCop
  have hwN : IntKind.i64.wrap ((N : Int) + 1) = ((N + 1 : Nat) : Int) := by rw [IntWalk.i64_in _ (by omega)]; omega
  go_enter Try.func27, Try.ntmps27
  go_wp2
  go_loopw [3, 7] (fun o a wr => ∃ k : Nat, k ≤ N + 1 ∧ a = .int .i64 (k : Int) ∧ wr.ownsRow w.heap.size 51 2 o k ((List.range k).flatMap (copC N)) ∧ Below w.heap.size w wr) (fun _ a _ => (N + 1 - intOf a).toNat)
  case atStart => exact ⟨0, by omega, rfl, ⟨rfl, .inl ⟨rfl, rfl⟩⟩, Below.refl _ _⟩
  case round =>
    rename World => wr
    obtain ⟨k, hk, rfl, hrow, hbw⟩ := hrel
    have hwz := hbw.size
    have hrl := Lib.hid hrow
    clear hrow
    by_cases hlt : k < N + 1
    · have g1 : (k : Int) < (N : Int) + 1 := by omega
      have hw1 : IntKind.i64.wrap ((N : Int) - (k : Int)) = (N : Int) - (k : Int) := IntWalk.i64_in _ (by omega)
      have hw2 : IntKind.i64.wrap ((k : Int) + 1) = ((k + 1 : Nat) : Int) := by rw [IntWalk.i64_in _ (by omega)]; omega
      go_wp2_with (at_builtin; refine wpList_append_own _ rfl _ _ 54 rfl w.heap.size 51 i0 _ 2 16 Try.underlying54 hi hz0 hz1 hz2 rfl (by decide) _ _ _ rfl (hrl.out.alloc _) ⟨wr.heap.size, 0, none⟩ 1 1 [.int .i64 (k : Int), .int .i64 ((N : Int) - (k : Int))] rfl rfl (news2c _ _ _ _) (ones2c _ _) (by unfold maxLen; omega) (by omega) (by simp; omega) ?_)
      intro vq wq hown hgr hnil
      have hgq := grown_trans (grown_below (below_a1 wr _) _) hgr
      have hfin : Hid (wq.ownsRow w.heap.size 51 2 vq (k + 1) ((List.range (k + 1)).flatMap (copC N)) ∧ Below w.heap.size w wq) := Lib.hid ⟨by rw [List.range_succ, List.flatMap_append]; exact hown, hbw.grown hgq hwz (fun j hj => owns_ge8 hrl.out hj)⟩
      clear hown hgr hnil hgq hrl hbw
      go_wp2
      go_roundw
      case rel => exact ⟨k + 1, by omega, by go_num, hfin.out⟩
      case measure => simp [intOf]; omega
    · obtain rfl : k = N + 1 := by omega
      go_wp2
      go_ret
      exact ⟨_, rfl, hrl.out, hbw⟩
end Go.Proofs.Ytlnhjknpeafgoaa
