/- Boards: the program's keys: the way from the key before, and the cost of a stroke. -/
import Derived.Test.YtmnafnjhioeicaaFin6
namespace Go.Proofs.Ytmnafnjhioeicaa
open Go.RowKit Go.ChangeShapes Go.WideShapes Go.Deep
set_option linter.unusedVariables false
set_option linter.unusedSimpArgs false

theorem reach_same (f r e i : Int) (w : World) :
    Calls Try.prog 52 #[.agg #[.int .i64 f, .int .i64 r, .int .i64 e, .int .i64 i], .agg #[.int .i64 f, .int .i64 r, .int .i64 e, .int .i64 i]] w fun e' w' => e' = .returned (.int .i64 0) ∧ Below w.heap.size w w' := by
  go_enter Try.func52, Try.ntmps52
  go_wp2
  go_ret
  exact ⟨rfl, below_a2 _ _ _⟩
theorem reach_f (f r e i r' e' i' m : Int) (hi : ¬ i = i') (hr : 0 ≤ r ∧ r ≤ 3) (hr' : 0 ≤ r' ∧ r' ≤ 3) (hm : max (r - r') (-(r - r')) = m) (w : World) :
    Calls Try.prog 52 #[.agg #[.int .i64 f, .int .i64 r, .int .i64 e, .int .i64 i], .agg #[.int .i64 f, .int .i64 r', .int .i64 e', .int .i64 i']] w fun e' w' => e' = .returned (.int .i64 (10 + 5 * m)) ∧ Below w.heap.size w w' := by
  have hm3 : 0 ≤ m ∧ m ≤ 3 := by omega
  have s2 : IntKind.i64.wrap (5 * m) = 5 * m := IntWalk.i64_in _ (by omega)
  have s3 : IntKind.i64.wrap (10 + 5 * m) = 10 + 5 * m := IntWalk.i64_in _ (by omega)
  by_cases hrr : r = r'
  · subst hrr
    obtain rfl : m = 0 := by omega
    clear hm hm3 s2 s3
    by_cases he : e = e'
    · subst he
      go_enter Try.func52, Try.ntmps52
      go_wp2
      go_ret
      exact ⟨by simp, below_a2 _ _ _⟩
    · go_enter Try.func52, Try.ntmps52
      go_wp2
      go_ret
      exact ⟨by simp, below_a2 _ _ _⟩
  · have s1 : IntKind.i64.wrap (r - r') = r - r' := IntWalk.i64_in _ (by omega)
    have s0 : IntKind.i64.wrap (-(r - r')) = -(r - r') := IntWalk.i64_in _ (by omega)
    by_cases hlt : r - r' < -(r - r')
    · obtain rfl : m = -(r - r') := by omega
      clear hm hm3
      go_enter Try.func52, Try.ntmps52
      go_wp2
      go_ret
      exact ⟨rfl, below_a2 _ _ _⟩
    · obtain rfl : m = r - r' := by omega
      clear hm hm3
      go_enter Try.func52, Try.ntmps52
      go_wp2
      go_ret
      exact ⟨rfl, below_a2 _ _ _⟩
set_option maxHeartbeats 1600000 in
theorem reach_h (f r e i f' r' e' i' : Int) (hf : ¬ f = f') (w : World) (v : Int) (hv : (if decide (4 ≤ f) = decide (4 ≤ f') then 2 else 0) = v) :
    Calls Try.prog 52 #[.agg #[.int .i64 f, .int .i64 r, .int .i64 e, .int .i64 i], .agg #[.int .i64 f', .int .i64 r', .int .i64 e', .int .i64 i']] w fun e' w' => e' = .returned (.int .i64 v) ∧ Below w.heap.size w w' := by
  have g0 : (f == f') = false := beq_eq_false_iff_ne.2 hf
  have h1 := Lib.hid (fun W => right_impl ⟨f, r, e⟩ rfl W)
  have h2 := Lib.hid (fun W => right_impl ⟨f', r', e'⟩ rfl W)
  simp only at h1 h2
  generalize decide (4 ≤ f) = p at *
  generalize decide (4 ≤ f') = q at *
  have hb0 := Lib.hid (below_a2 w (.cells #[.int .i64 f, .int .i64 r, .int .i64 e, .int .i64 i] 61) (.cells #[.int .i64 f', .int .i64 r', .int .i64 e', .int .i64 i'] 61))

  by_cases hpq : p = q
  · obtain rfl : v = 2 := by rw [← hv, if_pos hpq]
    have g1 : (p == q) = true := beq_iff_eq.2 hpq
    clear hv hpq hf
    go_enter Try.func52, Try.ntmps52
    go_wp2_with fail
    generalize hW : (w.alloc (.cells #[.int .i64 f, .int .i64 r, .int .i64 e, .int .i64 i] 61)).alloc (.cells #[.int .i64 f', .int .i64 r', .int .i64 e', .int .i64 i'] 61) = W at *
    have k0 : W.cell? ⟨w.heap.size, 0, none⟩ = some (.int .i64 f) := hW ▸ cell_on (cell_new rfl rfl) _
    have k1 : W.cell? ⟨w.heap.size, 1, none⟩ = some (.int .i64 r) := hW ▸ cell_on (cell_new rfl rfl) _
    have k2 : W.cell? ⟨w.heap.size, 2, none⟩ = some (.int .i64 e) := hW ▸ cell_on (cell_new rfl rfl) _
    have j0 : W.cell? ⟨w.heap.size + 1, 0, none⟩ = some (.int .i64 f') := hW ▸ cell_new (by simp) rfl
    have j1 : W.cell? ⟨w.heap.size + 1, 1, none⟩ = some (.int .i64 r') := hW ▸ cell_new (by simp) rfl
    have j2 : W.cell? ⟨w.heap.size + 1, 2, none⟩ = some (.int .i64 e') := hW ▸ cell_new (by simp) rfl
    clear hW
    refine wp_region_held_drew (S := fun w' => Below W.heap.size W w' ∧ w'.cell? ⟨w.heap.size, 0, none⟩ = some (.int .i64 f) ∧ w'.cell? ⟨w.heap.size, 1, none⟩ = some (.int .i64 r) ∧ w'.cell? ⟨w.heap.size, 2, none⟩ = some (.int .i64 e) ∧ w'.cell? ⟨w.heap.size + 1, 0, none⟩ = some (.int .i64 f') ∧ w'.cell? ⟨w.heap.size + 1, 1, none⟩ = some (.int .i64 r') ∧ w'.cell? ⟨w.heap.size + 1, 2, none⟩ = some (.int .i64 e')) (by kernel_rfl) ?_ (fun hHeld => ?_)
    · exact ⟨(Below.refl _ _).drew, k0, k1, k2, j0, j1, j2⟩
    refine wpAnyH_take (i := 0) (v := ?vrha0) rfl (by kernel_rfl) (by kernel_rfl) (by kernel_rfl) (fun _ _ _ h => h) (Or.inl ⟨rfl, ?yrha0⟩) (by assumption) ?_
    case yrha0 => (intro w hSw; (try dsimp only at hSw); go_simp; first | done | with_reducible rfl)
    simp only [List.getElem_toArray, List.getElem_cons_succ, List.getElem_cons_zero, Act.put, List.setIfInBounds_toArray, List.set_cons_zero, List.set_cons_succ]
    refine wpAnyH_take (i := 1) (v := ?vrha1) rfl (by kernel_rfl) (by kernel_rfl) (by kernel_rfl) (fun _ _ _ h => h) (Or.inl ⟨rfl, ?yrha1⟩) (by assumption) ?_
    case yrha1 => (intro w hSw; (try dsimp only at hSw); go_simp; first | done | with_reducible rfl)
    simp only [List.getElem_toArray, List.getElem_cons_succ, List.getElem_cons_zero, Act.put, List.setIfInBounds_toArray, List.set_cons_zero, List.set_cons_succ]
    refine wpAnyH_take (i := 3) (v := ?vrha3) rfl (by kernel_rfl) (by kernel_rfl) (by kernel_rfl) (fun _ _ _ h => h) (Or.inl ⟨rfl, ?yrha3⟩) (by assumption) ?_
    case yrha3 => (intro w hSw; (try dsimp only at hSw); go_simp; first | done | with_reducible rfl)
    simp only [List.getElem_toArray, List.getElem_cons_succ, List.getElem_cons_zero, Act.put, List.setIfInBounds_toArray, List.set_cons_zero, List.set_cons_succ]
    refine wpAnyH_take (i := 4) (v := ?vrha4) rfl (by kernel_rfl) (by kernel_rfl) (by kernel_rfl) (fun _ _ _ h => h) (Or.inl ⟨rfl, ?yrha4⟩) (by assumption) ?_
    case yrha4 => (intro w hSw; (try dsimp only at hSw); go_simp; first | done | with_reducible rfl)
    simp only [List.getElem_toArray, List.getElem_cons_succ, List.getElem_cons_zero, Act.put, List.setIfInBounds_toArray, List.set_cons_zero, List.set_cons_succ]
    refine wpAnyH_ready (rs := [2]) (by kernel_rfl) (by simp) ?_
    refine AllReadyH.cons rfl (fun K hK => ?_) AllReadyH.nil
    go_simp
    refine (h1.out _).mono ?_
    rintro e w1 ⟨rfl, hb1⟩
    go_wp2_with fail
    refine hK.out _ _ ?_ (fun hHeld => ?_)
    · exact kept6 (by assumption) hb1
    clear hK K hb1
    try simp only [List.getElem_toArray, List.getElem_cons_succ, List.getElem_cons_zero, Act.put, List.setIfInBounds_toArray, List.set_cons_zero, List.set_cons_succ]
    refine wpAnyH_ready (rs := [5]) (by kernel_rfl) (by simp) ?_
    refine AllReadyH.cons rfl (fun K hK => ?_) AllReadyH.nil
    go_simp
    refine (h2.out _).mono ?_
    rintro e w1 ⟨rfl, hb1⟩
    go_wp2_with fail
    refine hK.out _ _ ?_ (fun hHeld => ?_)
    · exact kept6 (by assumption) hb1
    clear hK K hb1
    try simp only [List.getElem_toArray, List.getElem_cons_succ, List.getElem_cons_zero, Act.put, List.setIfInBounds_toArray, List.set_cons_zero, List.set_cons_succ]
    refine wpAnyH_take (i := 6) (v := ?vrha6) rfl (by kernel_rfl) (by kernel_rfl) (by kernel_rfl) (fun _ _ _ h => h) (Or.inl ⟨rfl, ?yrha6⟩) (by assumption) ?_
    case yrha6 => (intro w hSw; (try dsimp only at hSw); go_simp; first | done | with_reducible rfl)
    simp only [List.getElem_toArray, List.getElem_cons_succ, List.getElem_cons_zero, Act.put, List.setIfInBounds_toArray, List.set_cons_zero, List.set_cons_succ]
    refine wpAnyH_take (i := 7) (v := ?vrha7) rfl (by kernel_rfl) (by kernel_rfl) (by kernel_rfl) (fun _ _ _ h => h) (Or.inl ⟨rfl, ?yrha7⟩) (by assumption) ?_
    case yrha7 => (intro w hSw; (try dsimp only at hSw); go_simp; first | done | with_reducible rfl)
    simp only [List.getElem_toArray, List.getElem_cons_succ, List.getElem_cons_zero, Act.put, List.setIfInBounds_toArray, List.set_cons_zero, List.set_cons_succ]
    refine wpAnyH_done (by kernel_rfl) ?_ _
    go_wp2
    go_ret
    exact ⟨rfl, hb0.out.step hHeld.1⟩
  · obtain rfl : v = 0 := by rw [← hv, if_neg hpq]
    have g1 : (p == q) = false := beq_eq_false_iff_ne.2 hpq
    clear hv hpq hf
    go_enter Try.func52, Try.ntmps52
    go_wp2_with fail
    generalize hW : (w.alloc (.cells #[.int .i64 f, .int .i64 r, .int .i64 e, .int .i64 i] 61)).alloc (.cells #[.int .i64 f', .int .i64 r', .int .i64 e', .int .i64 i'] 61) = W at *
    have k0 : W.cell? ⟨w.heap.size, 0, none⟩ = some (.int .i64 f) := hW ▸ cell_on (cell_new rfl rfl) _
    have k1 : W.cell? ⟨w.heap.size, 1, none⟩ = some (.int .i64 r) := hW ▸ cell_on (cell_new rfl rfl) _
    have k2 : W.cell? ⟨w.heap.size, 2, none⟩ = some (.int .i64 e) := hW ▸ cell_on (cell_new rfl rfl) _
    have j0 : W.cell? ⟨w.heap.size + 1, 0, none⟩ = some (.int .i64 f') := hW ▸ cell_new (by simp) rfl
    have j1 : W.cell? ⟨w.heap.size + 1, 1, none⟩ = some (.int .i64 r') := hW ▸ cell_new (by simp) rfl
    have j2 : W.cell? ⟨w.heap.size + 1, 2, none⟩ = some (.int .i64 e') := hW ▸ cell_new (by simp) rfl
    clear hW
    refine wp_region_held_drew (S := fun w' => Below W.heap.size W w' ∧ w'.cell? ⟨w.heap.size, 0, none⟩ = some (.int .i64 f) ∧ w'.cell? ⟨w.heap.size, 1, none⟩ = some (.int .i64 r) ∧ w'.cell? ⟨w.heap.size, 2, none⟩ = some (.int .i64 e) ∧ w'.cell? ⟨w.heap.size + 1, 0, none⟩ = some (.int .i64 f') ∧ w'.cell? ⟨w.heap.size + 1, 1, none⟩ = some (.int .i64 r') ∧ w'.cell? ⟨w.heap.size + 1, 2, none⟩ = some (.int .i64 e')) (by kernel_rfl) ?_ (fun hHeld => ?_)
    · exact ⟨(Below.refl _ _).drew, k0, k1, k2, j0, j1, j2⟩
    refine wpAnyH_take (i := 0) (v := ?vrhb0) rfl (by kernel_rfl) (by kernel_rfl) (by kernel_rfl) (fun _ _ _ h => h) (Or.inl ⟨rfl, ?yrhb0⟩) (by assumption) ?_
    case yrhb0 => (intro w hSw; (try dsimp only at hSw); go_simp; first | done | with_reducible rfl)
    simp only [List.getElem_toArray, List.getElem_cons_succ, List.getElem_cons_zero, Act.put, List.setIfInBounds_toArray, List.set_cons_zero, List.set_cons_succ]
    refine wpAnyH_take (i := 1) (v := ?vrhb1) rfl (by kernel_rfl) (by kernel_rfl) (by kernel_rfl) (fun _ _ _ h => h) (Or.inl ⟨rfl, ?yrhb1⟩) (by assumption) ?_
    case yrhb1 => (intro w hSw; (try dsimp only at hSw); go_simp; first | done | with_reducible rfl)
    simp only [List.getElem_toArray, List.getElem_cons_succ, List.getElem_cons_zero, Act.put, List.setIfInBounds_toArray, List.set_cons_zero, List.set_cons_succ]
    refine wpAnyH_take (i := 3) (v := ?vrhb3) rfl (by kernel_rfl) (by kernel_rfl) (by kernel_rfl) (fun _ _ _ h => h) (Or.inl ⟨rfl, ?yrhb3⟩) (by assumption) ?_
    case yrhb3 => (intro w hSw; (try dsimp only at hSw); go_simp; first | done | with_reducible rfl)
    simp only [List.getElem_toArray, List.getElem_cons_succ, List.getElem_cons_zero, Act.put, List.setIfInBounds_toArray, List.set_cons_zero, List.set_cons_succ]
    refine wpAnyH_take (i := 4) (v := ?vrhb4) rfl (by kernel_rfl) (by kernel_rfl) (by kernel_rfl) (fun _ _ _ h => h) (Or.inl ⟨rfl, ?yrhb4⟩) (by assumption) ?_
    case yrhb4 => (intro w hSw; (try dsimp only at hSw); go_simp; first | done | with_reducible rfl)
    simp only [List.getElem_toArray, List.getElem_cons_succ, List.getElem_cons_zero, Act.put, List.setIfInBounds_toArray, List.set_cons_zero, List.set_cons_succ]
    refine wpAnyH_ready (rs := [2]) (by kernel_rfl) (by simp) ?_
    refine AllReadyH.cons rfl (fun K hK => ?_) AllReadyH.nil
    go_simp
    refine (h1.out _).mono ?_
    rintro e w1 ⟨rfl, hb1⟩
    go_wp2_with fail
    refine hK.out _ _ ?_ (fun hHeld => ?_)
    · exact kept6 (by assumption) hb1
    clear hK K hb1
    try simp only [List.getElem_toArray, List.getElem_cons_succ, List.getElem_cons_zero, Act.put, List.setIfInBounds_toArray, List.set_cons_zero, List.set_cons_succ]
    refine wpAnyH_ready (rs := [5]) (by kernel_rfl) (by simp) ?_
    refine AllReadyH.cons rfl (fun K hK => ?_) AllReadyH.nil
    go_simp
    refine (h2.out _).mono ?_
    rintro e w1 ⟨rfl, hb1⟩
    go_wp2_with fail
    refine hK.out _ _ ?_ (fun hHeld => ?_)
    · exact kept6 (by assumption) hb1
    clear hK K hb1
    try simp only [List.getElem_toArray, List.getElem_cons_succ, List.getElem_cons_zero, Act.put, List.setIfInBounds_toArray, List.set_cons_zero, List.set_cons_succ]
    refine wpAnyH_take (i := 6) (v := ?vrhb6) rfl (by kernel_rfl) (by kernel_rfl) (by kernel_rfl) (fun _ _ _ h => h) (Or.inl ⟨rfl, ?yrhb6⟩) (by assumption) ?_
    case yrhb6 => (intro w hSw; (try dsimp only at hSw); go_simp; first | done | with_reducible rfl)
    simp only [List.getElem_toArray, List.getElem_cons_succ, List.getElem_cons_zero, Act.put, List.setIfInBounds_toArray, List.set_cons_zero, List.set_cons_succ]
    refine wpAnyH_take (i := 7) (v := ?vrhb7) rfl (by kernel_rfl) (by kernel_rfl) (by kernel_rfl) (fun _ _ _ h => h) (Or.inl ⟨rfl, ?yrhb7⟩) (by assumption) ?_
    case yrhb7 => (intro w hSw; (try dsimp only at hSw); go_simp; first | done | with_reducible rfl)
    simp only [List.getElem_toArray, List.getElem_cons_succ, List.getElem_cons_zero, Act.put, List.setIfInBounds_toArray, List.set_cons_zero, List.set_cons_succ]
    refine wpAnyH_done (by kernel_rfl) ?_ _
    go_wp2
    go_ret
    exact ⟨rfl, hb0.out.step hHeld.1⟩

/-- The key of a place. -/
def keyV (ps : List PlaceD) (i : Nat) : Value := .agg #[.int .i64 (plc ps i).finger, .int .i64 (plc ps i).row, .int .i64 (plc ps i).effort, .int .i64 (i : Int)]
theorem reach_impl (ps : List PlaceD) (hok : boardOk ps = true) (a b : Nat) (w : World) {v : Int} (hv : reachI ps a b = v) :
    Calls Try.prog 52 #[keyV ps b, keyV ps a] w fun e w' => e = .returned (.int .i64 v) ∧ Below w.heap.size w w' := by
  have oka := placeOk_iff.1 (plc_ok hok a)
  have okb := placeOk_iff.1 (plc_ok hok b)
  subst hv
  unfold reachI
  by_cases hab : a = b
  · subst hab
    rw [if_pos rfl]
    exact reach_same _ _ _ _ w
  · rw [if_neg hab]
    by_cases hf : (plc ps a).finger = (plc ps b).finger
    · rw [if_pos hf, keyV, keyV, hf]
      exact reach_f _ _ _ _ _ _ _ _ (by omega) (by omega) (by omega) rfl w
    · rw [if_neg hf]
      refine reach_h _ _ _ _ _ _ _ _ (fun h => hf h.symm) w _ ?_
      have h1 : ∀ x : Int, decide (4 ≤ x) = !decide (x ≤ 3) := fun x => by rw [← decide_not]; exact decide_eq_decide.2 (by omega)
      rw [h1, h1]
      cases decide ((plc ps a).finger ≤ 3) <;> cases decide ((plc ps b).finger ≤ 3) <;> rfl
set_option maxHeartbeats 800000 in
theorem behind_impl (ps : List PlaceD) (hok : boardOk ps = true) (a b : Nat) (w : World) {v : Int} (hv : costI ps a b = v) :
    Calls Try.prog 47 #[keyV ps b, keyV ps a] w fun e w' => e = .returned (.int .i64 v) ∧ Below w.heap.size w w' := by
  have hr := Lib.hid (fun W => reach_impl ps hok a b W rfl)
  have hres : Hid (v = (plc ps b).effort + reachI ps a b) := Lib.hid (by rw [← hv, costI])
  have okb := placeOk_iff.1 (plc_ok hok b)
  have hrr := reachI_range hok a b
  unfold keyV at *
  generalize reachI ps a b = z at *
  generalize (plc ps b).finger = f at *
  generalize (plc ps b).row = r at *
  generalize (plc ps b).effort = e at *
  generalize (plc ps a).finger = f' at *
  generalize (plc ps a).row = r' at *
  generalize (plc ps a).effort = e' at *
  generalize (a : Int) = i' at *
  generalize (b : Int) = i at *
  have s1 : IntKind.i64.wrap (e + z) = e + z := IntWalk.i64_in _ (by omega)
  have hb0 := Lib.hid (below_a2 w (.cells #[.int .i64 f, .int .i64 r, .int .i64 e, .int .i64 i] 61) (.cells #[.int .i64 f', .int .i64 r', .int .i64 e', .int .i64 i'] 61))
  clear hv okb hrr hok
  go_enter Try.func47, Try.ntmps47
  go_wp2_with fail
  generalize hW : (w.alloc (.cells #[.int .i64 f, .int .i64 r, .int .i64 e, .int .i64 i] 61)).alloc (.cells #[.int .i64 f', .int .i64 r', .int .i64 e', .int .i64 i'] 61) = W at *
  have k0 : W.cell? ⟨w.heap.size, 0, none⟩ = some (.int .i64 f) := hW ▸ cell_on (cell_new rfl rfl) _
  have k1 : W.cell? ⟨w.heap.size, 1, none⟩ = some (.int .i64 r) := hW ▸ cell_on (cell_new rfl rfl) _
  have k2 : W.cell? ⟨w.heap.size, 2, none⟩ = some (.int .i64 e) := hW ▸ cell_on (cell_new rfl rfl) _
  have k3 : W.cell? ⟨w.heap.size, 3, none⟩ = some (.int .i64 i) := hW ▸ cell_on (cell_new rfl rfl) _
  have j0 : W.cell? ⟨w.heap.size + 1, 0, none⟩ = some (.int .i64 f') := hW ▸ cell_new (by simp) rfl
  have j1 : W.cell? ⟨w.heap.size + 1, 1, none⟩ = some (.int .i64 r') := hW ▸ cell_new (by simp) rfl
  have j2 : W.cell? ⟨w.heap.size + 1, 2, none⟩ = some (.int .i64 e') := hW ▸ cell_new (by simp) rfl
  have j3 : W.cell? ⟨w.heap.size + 1, 3, none⟩ = some (.int .i64 i') := hW ▸ cell_new (by simp) rfl
  clear hW
  refine wp_region_held_drew (S := fun w' => Below W.heap.size W w' ∧ w'.cell? ⟨w.heap.size, 0, none⟩ = some (.int .i64 f) ∧ w'.cell? ⟨w.heap.size, 1, none⟩ = some (.int .i64 r) ∧ w'.cell? ⟨w.heap.size, 2, none⟩ = some (.int .i64 e) ∧ w'.cell? ⟨w.heap.size, 3, none⟩ = some (.int .i64 i) ∧ w'.cell? ⟨w.heap.size + 1, 0, none⟩ = some (.int .i64 f') ∧ w'.cell? ⟨w.heap.size + 1, 1, none⟩ = some (.int .i64 r') ∧ w'.cell? ⟨w.heap.size + 1, 2, none⟩ = some (.int .i64 e') ∧ w'.cell? ⟨w.heap.size + 1, 3, none⟩ = some (.int .i64 i')) (by kernel_rfl) ?_ (fun hHeld => ?_)
  · exact ⟨(Below.refl _ _).drew, k0, k1, k2, k3, j0, j1, j2, j3⟩
  refine wpAnyH_take (i := 0) (v := ?vbh0) rfl (by kernel_rfl) (by kernel_rfl) (by kernel_rfl) (fun _ _ _ h => h) (Or.inl ⟨rfl, ?ybh0⟩) (by assumption) ?_
  case ybh0 => (intro w hSw; (try dsimp only at hSw); go_simp; first | done | with_reducible rfl)
  simp only [List.getElem_toArray, List.getElem_cons_succ, List.getElem_cons_zero, Act.put, List.setIfInBounds_toArray, List.set_cons_zero, List.set_cons_succ]
  refine wpAnyH_take (i := 1) (v := ?vbh1) rfl (by kernel_rfl) (by kernel_rfl) (by kernel_rfl) (fun _ _ _ h => h) (Or.inl ⟨rfl, ?ybh1⟩) (by assumption) ?_
  case ybh1 => (intro w hSw; (try dsimp only at hSw); go_simp; first | done | with_reducible rfl)
  simp only [List.getElem_toArray, List.getElem_cons_succ, List.getElem_cons_zero, Act.put, List.setIfInBounds_toArray, List.set_cons_zero, List.set_cons_succ]
  refine wpAnyH_take (i := 2) (v := ?vbh2) rfl (by kernel_rfl) (by kernel_rfl) (by kernel_rfl) (fun _ _ _ h => h) (Or.inl ⟨rfl, ?ybh2⟩) (by assumption) ?_
  case ybh2 => (intro w hSw; (try dsimp only at hSw); go_simp; first | done | with_reducible rfl)
  simp only [List.getElem_toArray, List.getElem_cons_succ, List.getElem_cons_zero, Act.put, List.setIfInBounds_toArray, List.set_cons_zero, List.set_cons_succ]
  refine wpAnyH_take (i := 3) (v := ?vbh3) rfl (by kernel_rfl) (by kernel_rfl) (by kernel_rfl) (fun _ _ _ h => h) (Or.inl ⟨rfl, ?ybh3⟩) (by assumption) ?_
  case ybh3 => (intro w hSw; (try dsimp only at hSw); go_simp; first | done | with_reducible rfl)
  simp only [List.getElem_toArray, List.getElem_cons_succ, List.getElem_cons_zero, Act.put, List.setIfInBounds_toArray, List.set_cons_zero, List.set_cons_succ]
  refine wpAnyH_take (i := 4) (v := ?vbh4) rfl (by kernel_rfl) (by kernel_rfl) (by kernel_rfl) (fun _ _ _ h => h) (Or.inl ⟨rfl, ?ybh4⟩) (by assumption) ?_
  case ybh4 => (intro w hSw; (try dsimp only at hSw); go_simp; first | done | with_reducible rfl)
  simp only [List.getElem_toArray, List.getElem_cons_succ, List.getElem_cons_zero, Act.put, List.setIfInBounds_toArray, List.set_cons_zero, List.set_cons_succ]
  refine wpAnyH_ready (rs := [5]) (by kernel_rfl) (by simp) ?_
  refine AllReadyH.cons rfl (fun K hK => ?_) AllReadyH.nil
  go_simp
  refine (hr.out _).mono ?_
  rintro e w1 ⟨rfl, hb1⟩
  go_wp2_with fail
  refine hK.out _ _ ?_ (fun hHeld => ?_)
  · exact kept8 (by assumption) hb1
  clear hK K hb1
  try simp only [List.getElem_toArray, List.getElem_cons_succ, List.getElem_cons_zero, Act.put, List.setIfInBounds_toArray, List.set_cons_zero, List.set_cons_succ]
  refine wpAnyH_take (i := 6) (v := ?vbh6) rfl (by kernel_rfl) (by kernel_rfl) (by kernel_rfl) (fun _ _ _ h => h) (Or.inl ⟨rfl, ?ybh6⟩) (by assumption) ?_
  case ybh6 => (intro w hSw; (try dsimp only at hSw); go_simp; first | done | with_reducible rfl)
  simp only [List.getElem_toArray, List.getElem_cons_succ, List.getElem_cons_zero, Act.put, List.setIfInBounds_toArray, List.set_cons_zero, List.set_cons_succ]
  refine wpAnyH_take (i := 7) (v := ?vbh7) rfl (by kernel_rfl) (by kernel_rfl) (by kernel_rfl) (fun _ _ _ h => h) (Or.inl ⟨rfl, ?ybh7⟩) (by assumption) ?_
  case ybh7 => (intro w hSw; (try dsimp only at hSw); go_simp; first | done | with_reducible rfl)
  simp only [List.getElem_toArray, List.getElem_cons_succ, List.getElem_cons_zero, Act.put, List.setIfInBounds_toArray, List.set_cons_zero, List.set_cons_succ]
  refine wpAnyH_done (by kernel_rfl) ?_ _
  go_wp2
  go_ret
  exact ⟨by rw [hres.out]; rfl, hb0.out.step hHeld.1⟩
end Go.Proofs.Ytmnafnjhioeicaa
