/- Bars: whether two strokes jam: the model's function and the program's. -/
import Derived.Test.YtndodlfmjdgpcaaBarsB
namespace Go.Proofs.Ytndodlfmjdgpcaa
open Go.RowKit
set_option linter.unusedVariables false
set_option linter.unusedSimpArgs false

theorem box3 {w wr : World} {c1 c2 c3 : Array Value} {t1 t2 t3 : TypeId} (h : ((w.alloc (.cells c1 t1)).alloc (.cells c2 t2)).alloc (.cells c3 t3) = wr) :
    Below w.heap.size w wr ∧ (∀ o u, c1[o]? = some u → wr.cell? ⟨w.heap.size, o, none⟩ = some u) ∧ (∀ o u, c2[o]? = some u → wr.cell? ⟨w.heap.size + 1, o, none⟩ = some u) ∧ (∀ o u, c3[o]? = some u → wr.cell? ⟨w.heap.size + 1 + 1, o, none⟩ = some u) := by
  subst h
  exact ⟨below_a3 _ _ _ _, fun o u hu => cell_on (cell_on (cell_new rfl hu) _) _, fun o u hu => cell_on (cell_new (by simp) hu) _, fun o u hu => cell_new (by simp) hu⟩

set_option maxRecDepth 100000 in
set_option maxHeartbeats 1600000 in
theorem jam_impl (b : BasketD) (x y : StrokeD) {v : Bool} (h : jamB b x y = v) (hb : basketOk b = true) (hx : hasBar b x.bar = true) (hy : hasBar b y.bar = true) (t0 : 0 ≤ x.tick) (t1 : x.tick ≤ y.tick) (t2 : y.tick ≤ 1000000) (w : World) :
    Calls Try.prog 57 #[.agg #[.int .i64 b.bars, .int .i64 b.rise, .int .i64 b.fall, .int .i64 b.clear, .int .i64 b.near], .agg #[.int .i64 x.bar, .int .i64 x.tick], .agg #[.int .i64 y.bar, .int .i64 y.tick]] w fun e w' => e = .returned (.bool v) ∧ Below w.heap.size w w' := by
  have hw := fun W => wait_impl b x.bar y.bar hb hx hy W
  have hres : Hid (v = decide (y.tick - x.tick < waitI b x.bar y.bar)) := Lib.hid h.symm
  obtain ⟨q1, q2⟩ := waitI_range hb x.bar y.bar
  generalize waitI b x.bar y.bar = W0 at *
  replace hw := Lib.hid hw
  clear h hb hx hy
  obtain ⟨bars, rise, fall, clear, near⟩ := b
  obtain ⟨xb, xt⟩ := x
  obtain ⟨yb, yt⟩ := y
  simp only at t0 t1 t2
  have s1 : IntKind.i64.wrap (yt - xt) = yt - xt := IntWalk.i64_in _ (by omega)
  go_enter Try.func57, Try.ntmps57
  go_wp2_with fail
  generalize hwr : (((w.alloc _).alloc _).alloc _) = wr
  obtain ⟨hB, k1, k2, k3⟩ := box3 hwr
  have c0 := k1 0 _ rfl
  have c1 := k1 1 _ rfl
  have c2 := k1 2 _ rfl
  have c3 := k1 3 _ rfl
  have c4 := k1 4 _ rfl
  have c5 := k2 0 _ rfl
  have c6 := k2 1 _ rfl
  have c7 := k3 0 _ rfl
  have c8 := k3 1 _ rfl
  clear k1 k2 k3 hwr
  generalize hN : w.heap.size = N at *
  replace hN := Lib.hid hN
  replace hB := Lib.hid hB
  refine wp_region_held_drew (S := fun w' => Below wr.heap.size wr w' ∧ w'.cell? ⟨N, 0, none⟩ = some (.int .i64 bars) ∧ w'.cell? ⟨N, 1, none⟩ = some (.int .i64 rise) ∧ w'.cell? ⟨N, 2, none⟩ = some (.int .i64 fall) ∧ w'.cell? ⟨N, 3, none⟩ = some (.int .i64 clear) ∧ w'.cell? ⟨N, 4, none⟩ = some (.int .i64 near) ∧ w'.cell? ⟨N + 1, 0, none⟩ = some (.int .i64 xb) ∧ w'.cell? ⟨N + 1, 1, none⟩ = some (.int .i64 xt) ∧ w'.cell? ⟨N + 1 + 1, 0, none⟩ = some (.int .i64 yb) ∧ w'.cell? ⟨N + 1 + 1, 1, none⟩ = some (.int .i64 yt)) (by kernel_rfl) ?_ (fun hHeld => ?_)
  · exact ⟨(Below.refl _ _).drew, c0, c1, c2, c3, c4, c5, c6, c7, c8⟩
  refine wpAnyH_take (i := 0) (v := ?vb0) rfl (by kernel_rfl) (by kernel_rfl) (by kernel_rfl) (fun _ _ _ h => h) (Or.inl ⟨rfl, ?yb0⟩) (by assumption) ?_
  case yb0 => (intro w hSw; (try dsimp only at hSw); go_simp; first | done | with_reducible rfl)
  simp only [List.getElem_toArray, List.getElem_cons_succ, List.getElem_cons_zero, Act.put, List.setIfInBounds_toArray, List.set_cons_zero, List.set_cons_succ]
  refine wpAnyH_take (i := 1) (v := ?vb1) rfl (by kernel_rfl) (by kernel_rfl) (by kernel_rfl) (fun _ _ _ h => h) (Or.inl ⟨rfl, ?yb1⟩) (by assumption) ?_
  case yb1 => (intro w hSw; (try dsimp only at hSw); go_simp; first | done | with_reducible rfl)
  simp only [List.getElem_toArray, List.getElem_cons_succ, List.getElem_cons_zero, Act.put, List.setIfInBounds_toArray, List.set_cons_zero, List.set_cons_succ]
  refine wpAnyH_take (i := 2) (v := ?vb2) rfl (by kernel_rfl) (by kernel_rfl) (by kernel_rfl) (fun _ _ _ h => h) (Or.inl ⟨rfl, ?yb2⟩) (by assumption) ?_
  case yb2 => (intro w hSw; (try dsimp only at hSw); go_simp; first | done | with_reducible rfl)
  simp only [List.getElem_toArray, List.getElem_cons_succ, List.getElem_cons_zero, Act.put, List.setIfInBounds_toArray, List.set_cons_zero, List.set_cons_succ]
  refine wpAnyH_take (i := 3) (v := ?vb3) rfl (by kernel_rfl) (by kernel_rfl) (by kernel_rfl) (fun _ _ _ h => h) (Or.inl ⟨rfl, ?yb3⟩) (by assumption) ?_
  case yb3 => (intro w hSw; (try dsimp only at hSw); go_simp; first | done | with_reducible rfl)
  simp only [List.getElem_toArray, List.getElem_cons_succ, List.getElem_cons_zero, Act.put, List.setIfInBounds_toArray, List.set_cons_zero, List.set_cons_succ]
  refine wpAnyH_take (i := 4) (v := ?vb4) rfl (by kernel_rfl) (by kernel_rfl) (by kernel_rfl) (fun _ _ _ h => h) (Or.inl ⟨rfl, ?yb4⟩) (by assumption) ?_
  case yb4 => (intro w hSw; (try dsimp only at hSw); go_simp; first | done | with_reducible rfl)
  simp only [List.getElem_toArray, List.getElem_cons_succ, List.getElem_cons_zero, Act.put, List.setIfInBounds_toArray, List.set_cons_zero, List.set_cons_succ]
  refine wpAnyH_take (i := 5) (v := ?vb5) rfl (by kernel_rfl) (by kernel_rfl) (by kernel_rfl) (fun _ _ _ h => h) (Or.inl ⟨rfl, ?yb5⟩) (by assumption) ?_
  case yb5 => (intro w hSw; (try dsimp only at hSw); go_simp; first | done | with_reducible rfl)
  simp only [List.getElem_toArray, List.getElem_cons_succ, List.getElem_cons_zero, Act.put, List.setIfInBounds_toArray, List.set_cons_zero, List.set_cons_succ]
  refine wpAnyH_take (i := 6) (v := ?vb6) rfl (by kernel_rfl) (by kernel_rfl) (by kernel_rfl) (fun _ _ _ h => h) (Or.inl ⟨rfl, ?yb6⟩) (by assumption) ?_
  case yb6 => (intro w hSw; (try dsimp only at hSw); go_simp; first | done | with_reducible rfl)
  simp only [List.getElem_toArray, List.getElem_cons_succ, List.getElem_cons_zero, Act.put, List.setIfInBounds_toArray, List.set_cons_zero, List.set_cons_succ]
  refine wpAnyH_take (i := 7) (v := ?vb7) rfl (by kernel_rfl) (by kernel_rfl) (by kernel_rfl) (fun _ _ _ h => h) (Or.inl ⟨rfl, ?yb7⟩) (by assumption) ?_
  case yb7 => (intro w hSw; (try dsimp only at hSw); go_simp; first | done | with_reducible rfl)
  simp only [List.getElem_toArray, List.getElem_cons_succ, List.getElem_cons_zero, Act.put, List.setIfInBounds_toArray, List.set_cons_zero, List.set_cons_succ]
  refine wpAnyH_take (i := 8) (v := ?vb8) rfl (by kernel_rfl) (by kernel_rfl) (by kernel_rfl) (fun _ _ _ h => h) (Or.inl ⟨rfl, ?yb8⟩) (by assumption) ?_
  case yb8 => (intro w hSw; (try dsimp only at hSw); go_simp; first | done | with_reducible rfl)
  simp only [List.getElem_toArray, List.getElem_cons_succ, List.getElem_cons_zero, Act.put, List.setIfInBounds_toArray, List.set_cons_zero, List.set_cons_succ]
  refine wpAnyH_take (i := 9) (v := ?vb9) rfl (by kernel_rfl) (by kernel_rfl) (by kernel_rfl) (fun _ _ _ h => h) (Or.inl ⟨rfl, ?yb9⟩) (by assumption) ?_
  case yb9 => (intro w hSw; (try dsimp only at hSw); go_simp; first | done | with_reducible rfl)
  simp only [List.getElem_toArray, List.getElem_cons_succ, List.getElem_cons_zero, Act.put, List.setIfInBounds_toArray, List.set_cons_zero, List.set_cons_succ]
  refine wpAnyH_ready (rs := [10]) (by kernel_rfl) (by simp) ?_
  refine AllReadyH.cons rfl (fun K hK => ?_) AllReadyH.nil
  go_simp
  refine (hw.out _).mono ?_
  rintro e w1 ⟨rfl, hb1⟩
  go_wp2_with fail
  refine hK.out _ _ ?_ (fun hHeld => ?_)
  · exact kept9 (by assumption) hb1
  clear hK K hb1
  try simp only [List.getElem_toArray, List.getElem_cons_succ, List.getElem_cons_zero, Act.put, List.setIfInBounds_toArray, List.set_cons_zero, List.set_cons_succ]
  refine wpAnyH_take (i := 11) (v := ?vb11) rfl (by kernel_rfl) (by kernel_rfl) (by kernel_rfl) (fun _ _ _ h => h) (Or.inl ⟨rfl, ?yb11⟩) (by assumption) ?_
  case yb11 => (intro w hSw; (try dsimp only at hSw); go_simp; first | done | with_reducible rfl)
  simp only [List.getElem_toArray, List.getElem_cons_succ, List.getElem_cons_zero, Act.put, List.setIfInBounds_toArray, List.set_cons_zero, List.set_cons_succ]
  refine wpAnyH_take (i := 12) (v := ?vb12) rfl (by kernel_rfl) (by kernel_rfl) (by kernel_rfl) (fun _ _ _ h => h) (Or.inl ⟨rfl, ?yb12⟩) (by assumption) ?_
  case yb12 => (intro w hSw; (try dsimp only at hSw); go_simp; first | done | with_reducible rfl)
  simp only [List.getElem_toArray, List.getElem_cons_succ, List.getElem_cons_zero, Act.put, List.setIfInBounds_toArray, List.set_cons_zero, List.set_cons_succ]
  refine wpAnyH_done (by kernel_rfl) ?_ _
  go_wp2
  go_ret
  obtain rfl := hN.out
  exact ⟨ret_bo hres.out.symm, hB.out.step hHeld.1⟩
end Go.Proofs.Ytndodlfmjdgpcaa
