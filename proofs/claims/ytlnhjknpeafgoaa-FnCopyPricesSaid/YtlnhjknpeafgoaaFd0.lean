/- Copies: draws of carbon and ways; facts about good copies. -/
import Derived.Test.YtlnhjknpeafgoaaSrc
import Derived.Test.YtlnhjknpeafgoaaDrawn
import Derived.Test.YtlnhjknpeafgoaaCq3
namespace Go.Proofs.Ytlnhjknpeafgoaa
open Go.RowKit Go.ChangeShapes Go.WideShapes Go.Deep
set_option linter.unusedVariables false
set_option linter.unusedSimpArgs false

set_option maxRecDepth 100000 in
set_option maxHeartbeats 800000 in
theorem a2atN (A : Option Addr) (n c i m : Nat) (hi : i ≤ 100) (hm0 : 1 ≤ m) (hm1 : m ≤ 1000) (xs : List Int) (w : World) (hn : n ≤ maxLen) (h : Bytes w A n xs) (hg : ∀ x ∈ xs, byteGood x) :
    Calls Try.prog 9 #[.slice A n c, .int .i64 (i : Int), .int .i64 (m : Int)] w fun e w' => (∃ x : Nat, x < m ∧ e = .returned (.int .i64 (x : Int))) ∧ w = w' := by
  unfold maxLen at hn
  have hm2 : ¬ (m : Int) < 1 := by omega
  have hm3 : ((m : Int) == 0) = false := beq_eq_false_iff_ne.2 (by omega)
  have hm4 : ¬ (m : Int) = 0 := by omega
  have hm5 : decide ((m : Int) < 1) = false := decide_eq_false hm2
  have hm6 : ¬ m = 0 := by omega
  by_cases hlt : i < n
  · obtain ⟨b, off, x, rfl, hb, hx, c0⟩ := byte_at h hlt
    obtain ⟨g0, g1⟩ := hg x (List.mem_of_getElem? hx.out)
    obtain ⟨y, rfl⟩ : ∃ y : Nat, x = (y : Int) := ⟨x.toNat, by omega⟩
    have hk0 : (0 : Int) ≤ (i : Int) := Int.natCast_nonneg _
    have hk1 : (i : Int) < (n : Int) := by omega
    have hk2 : ¬ (n : Int) ≤ (i : Int) := by omega
    have hm : ((y : Int).tmod (m : Int)) = ((y % m : Nat) : Int) := (Int.ofNat_tmod y m).symm
    have hltm : y % m < m := Nat.mod_lt y hm0
    have hwy : IntKind.i64.wrap (y : Int) = (y : Int) := IntWalk.i64_in _ (by omega)
    generalize y % m = q at *
    have hwq : IntKind.i64.wrap (q : Int) = (q : Int) := IntWalk.i64_in _ (by omega)
    clear hx h hg
    go_enter Try.func9, Try.ntmps9
    go_wp2
    go_ret
    exact ⟨⟨q, hltm, rfl⟩, rfl⟩
  · have hk1 : ¬ (i : Int) < (n : Int) := by omega
    have hk2 : (n : Int) ≤ (i : Int) := by omega
    go_enter Try.func9, Try.ntmps9
    go_wp2
    go_ret
    exact ⟨⟨0, by omega, rfl⟩, rfl⟩
theorem blocks2d (w : World) (a b : Obj) : ((w.alloc a).alloc b).heap[w.heap.size]? = some a ∧ ((w.alloc a).alloc b).heap[w.heap.size + 1]? = some b := by
  constructor
  · rw [heap_alloc_old _ _ (by simp), heap_alloc_new]
  · rw [show w.heap.size + 1 = (w.alloc a).heap.size by simp, heap_alloc_new]
theorem set_block13d {w : World} {R i : Nat} {cs : Array Value} {t : TypeId} {v : Value} (h : w.heap[R]? = some (.cells cs t)) : (w.setCell ⟨R, i, none⟩ v).heap[R]? = some (.cells (cs.setIfInBounds i v) t) := set_block13 h
theorem set_other13d {w : World} {R Q i : Nat} {o : Obj} {v : Value} (h : w.heap[Q]? = some o) (hne : R ≠ Q) : (w.setCell ⟨R, i, none⟩ v).heap[Q]? = some o := by
  unfold World.setCell
  simp only [Array.getElem?_modify]
  rw [if_neg hne]
  exact h
theorem block_row {w w' : World} {b r : Nat} {o : Obj} (h : w.heap[b]? = some o) (g : w.grownBy w' (some r)) (hne : b ≠ r) : w'.heap[b]? = some o :=
  (g.block b (own_lt h) (fun e => hne (by cases e; rfl))).trans h
theorem grown_set13 {w : World} {g o : Nat} {v : Value} : w.grownBy (w.setCell ⟨g, o, none⟩ v) (some g) := ⟨rfl, rfl, rfl, by simp [World.setCell], fun i _ hi => by
  unfold World.setCell
  simp only [Array.getElem?_modify]
  rw [if_neg (fun e => hi (by rw [e]))]⟩
set_option maxRecDepth 100000 in
set_option maxHeartbeats 2400000 in
theorem carb_any (r t : Nat) (w : World) (h : SrcAt w r t) (ht : t ≤ 1000000) :
    Calls Try.prog 16 #[.pointer (some ⟨r, 0, none⟩)] w fun e w' => (∃ c : CarbonD, caB c = true ∧ c.force ≤ 345 ∧ c.loss ≤ 84 ∧ e = .returned (.agg #[.int .i64 c.force, .int .i64 c.loss, .int .i64 c.least])) ∧ Drawn r w.heap.size w w' := by
  have hr := h.lt
  have hs0 := h.below (below_a1 w (.cells #[.int .i64 0, .int .i64 0, .int .i64 0] 25))
  have hd0 := (Drawn.refl r w.heap.size w).below (below_a1 w (.cells #[.int .i64 0, .int .i64 0, .int .i64 0] 25)) (Nat.le_refl _)
  have hR0 : (w.alloc (.cells #[.int .i64 0, .int .i64 0, .int .i64 0] 25)).heap[w.heap.size]? = some (.cells #[.int .i64 0, .int .i64 0, .int .i64 0] 25) := heap_alloc_new _ _
  have hz0 : w.heap.size ≤ (w.alloc (.cells #[.int .i64 0, .int .i64 0, .int .i64 0] 25)).heap.size := by simp
  have hpk := Lib.hid (pick_any r t 60 _ hs0 (by omega) (by omega))
  clear h
  go_enter Try.func16, Try.ntmps16
  go_wp2_with fail
  refine hpk.out.mono ?_
  rintro e w2 ⟨x, rfl, x0, x1, _, hs2, hg2⟩
  have x2 := x1 (by omega)
  have hR2 := block_row hR0 hg2 (by omega)
  have hd2 := hd0.pick hg2 hz0
  have hz2 : w.heap.size ≤ w2.heap.size := Nat.le_trans hz0 hg2.size
  have hw1 : IntKind.i64.wrap (5 * x) = 5 * x := IntWalk.i64_in _ (by omega)
  have hw2 : IntKind.i64.wrap (50 + 5 * x) = 50 + 5 * x := IntWalk.i64_in _ (by omega)
  obtain ⟨F, hF⟩ : ∃ F, 50 + 5 * x = F := ⟨_, rfl⟩
  rw [hF] at hw2
  have hs3 := hs2.below (below_a1 w2 (.cells #[.int .i64 F, .int .i64 0, .int .i64 0] 25))
  have hd3 := hd2.below (below_a1 w2 (.cells #[.int .i64 F, .int .i64 0, .int .i64 0] 25)) hz2
  have hR3 : (w2.alloc (.cells #[.int .i64 F, .int .i64 0, .int .i64 0] 25)).heap[w.heap.size]? = _ := (heap_alloc_old _ _ (own_lt hR2)).trans hR2
  have hB3 : (w2.alloc (.cells #[.int .i64 F, .int .i64 0, .int .i64 0] 25)).heap[w2.heap.size]? = some _ := heap_alloc_new _ _
  have hlR2 := own_lt hR2
  have hpk2 := Lib.hid (pick_any r (t + 2) 80 _ hs3 (by omega) (by omega))
  clear hs0 hd0 hR0 hpk hs2 hg2 hd2 hR2 x1 hs3
  go_wp2_with fail
  refine hpk2.out.mono ?_
  rintro e w4 ⟨y, rfl, y0, y1, _, hs4, hg4⟩
  have y2 := y1 (by omega)
  have hR4 := block_row hR3 hg4 (by omega)
  have hB4 := block_row hB3 hg4 (by omega)
  have hd4 := hd3.pick hg4 (by have := hd3.size; omega)
  have hz4 : w.heap.size ≤ w4.heap.size := by have := own_lt hR4; omega
  have hw3 : IntKind.i64.wrap (5 + y) = 5 + y := IntWalk.i64_in _ (by omega)
  obtain ⟨LL, hLL⟩ : ∃ LL, 5 + y = LL := ⟨_, rfl⟩
  rw [hLL] at hw3
  have b0 := own_cell hB4 (o := 0) rfl
  have b1 := own_cell hB4 (o := 1) rfl
  have b2 := own_cell hB4 (o := 2) rfl
  have fb0 := own_frozen hB4 0
  have fb1 := own_frozen hB4 1
  have fb2 := own_frozen hB4 2
  have hlB4 := own_lt hB4
  have hB5 := set_block13d (i := 1) (v := .int .i64 LL) hB4
  simp only [List.setIfInBounds_toArray, List.set_cons_zero, List.set_cons_succ] at hB5
  have hR5 := set_other13d (R := w2.heap.size) (i := 1) (v := .int .i64 LL) hR4 (by omega)
  have hs5 := hs4.grown (grown_set13 (g := w2.heap.size) (o := 1) (v := .int .i64 LL)) (by omega)
  have hd5 := hd4.young (grown_set13 (g := w2.heap.size) (o := 1) (v := .int .i64 LL)) hz4 hz2
  have hpk3 := Lib.hid (pick_any r (t + 2 + 2) F _ hs5 (by omega) (by omega))
  have hz5 : w.heap.size ≤ (w4.setCell ⟨w2.heap.size, 1, none⟩ (.int .i64 LL)).heap.size := by simpa [World.setCell] using hz4
  clear hR3 hB3 hpk2 hs4 hg4 hd3 hd4 y1
  go_wp2_with fail
  refine hpk3.out.mono ?_
  rintro e w6 ⟨z, rfl, z0, z1, z3, hs6, hg6⟩
  have z2 := z1 (by omega)
  have hR6 := block_row hR5 hg6 (by omega)
  have hB6 := block_row hB5 hg6 (by omega)
  have hd6 := hd5.pick hg6 hz5
  have hz6 : w.heap.size ≤ w6.heap.size := by have := own_lt hR6; omega
  have hw4 : IntKind.i64.wrap (1 + z) = 1 + z := IntWalk.i64_in _ (by omega)
  obtain ⟨E, hE⟩ : ∃ E, 1 + z = E := ⟨_, rfl⟩
  rw [hE] at hw4
  clear b0 b1 b2 fb0 fb1 fb2 hR4 hB4 hR5 hB5 hpk3 hs6 hg6 hd5 z1 hlB4 hs5
  have b0 := own_cell hB6 (o := 0) rfl
  have b1 := own_cell hB6 (o := 1) rfl
  have b2 := own_cell hB6 (o := 2) rfl
  have fb0 := own_frozen hB6 0
  have fb1 := own_frozen hB6 1
  have fb2 := own_frozen hB6 2
  have q0 := own_cell hR6 (o := 0) rfl
  have q1 := own_cell hR6 (o := 1) rfl
  have q2 := own_cell hR6 (o := 2) rfl
  have fq0 := own_frozen hR6 0
  have fq1 := own_frozen hR6 1
  have fq2 := own_frozen hR6 2
  have hlB6 := own_lt hB6
  have hlR6 := own_lt hR6
  have hB7 := set_block13d (i := 2) (v := .int .i64 E) hB6
  simp only [List.setIfInBounds_toArray, List.set_cons_zero, List.set_cons_succ] at hB7
  have hR7 := set_other13d (R := w2.heap.size) (i := 2) (v := .int .i64 E) hR6 (by omega)
  have hd7 := hd6.young (grown_set13 (g := w2.heap.size) (o := 2) (v := .int .i64 E)) hz6 hz2
  have hz7 : w.heap.size ≤ (w6.setCell ⟨w2.heap.size, 2, none⟩ (.int .i64 E)).heap.size := by simpa [World.setCell] using hz6
  have hne7 : w.heap.size ≠ w2.heap.size := by omega
  have hR8 := set_block13d (i := 2) (v := .int .i64 E) (set_block13d (i := 1) (v := .int .i64 LL) (set_block13d (i := 0) (v := .int .i64 F) hR7))
  simp only [List.setIfInBounds_toArray, List.set_cons_zero, List.set_cons_succ] at hR8
  have hd8 := ((hd7.young (grown_set13 (g := w.heap.size) (o := 0) (v := .int .i64 F)) hz7 (Nat.le_refl _)).young (grown_set13 (g := w.heap.size) (o := 1) (v := .int .i64 LL)) (by simpa [World.setCell] using hz6) (Nat.le_refl _)).young (grown_set13 (g := w.heap.size) (o := 2) (v := .int .i64 E)) (by simpa [World.setCell] using hz6) (Nat.le_refl _)
  have hfin : Hid (caB ⟨F, LL, E⟩ = true ∧ F ≤ 345 ∧ LL ≤ 84) := Lib.hid ⟨caB_iff.2 (by simp only; omega), by omega, by omega⟩
  clear hR6 hB6 hB7 hR7 hd6 hd7
  go_wp2
  generalize (((w6.setCell ⟨w2.heap.size, 2, none⟩ (.int .i64 E)).setCell ⟨w.heap.size, 0, none⟩ (.int .i64 F)).setCell ⟨w.heap.size, 1, none⟩ (.int .i64 LL)).setCell ⟨w.heap.size, 2, none⟩ (.int .i64 E) = wz at *
  have hlz := own_lt hR8
  have k0 := own_cell hR8 (o := 0) rfl
  have k1 := own_cell hR8 (o := 1) rfl
  have k2 := own_cell hR8 (o := 2) rfl
  refine bodyPost_ret (v := .agg #[.int .i64 F, .int .i64 LL, .int .i64 E]) (by simp [results, Try.results16, go_sem, k0, k1, k2, hlz]) rfl ?_
  exact ⟨⟨⟨F, LL, E⟩, hfin.out.1, hfin.out.2.1, hfin.out.2.2, rfl⟩, hd8⟩
set_option maxRecDepth 100000 in
set_option maxHeartbeats 2400000 in
theorem a2carb_any (A : Option Addr) (n c : Nat) (xs : List Int) (w : World) (hn : n ≤ maxLen) (h : Bytes w A n xs) (hg : ∀ x ∈ xs, byteGood x) :
    Calls Try.prog 6 #[.slice A n c] w fun e w' => ∃ c : CarbonD, caB c = true ∧ c.force ≤ 345 ∧ c.loss ≤ 84 ∧ e = .returned (.agg #[.int .i64 c.force, .int .i64 c.loss, .int .i64 c.least]) ∧ Below w.heap.size w w' := by
  have hfr := Lib.hid (from_any A n c xs _ hn (h.below (below_a1 w (.cells #[.int .i64 0, .int .i64 0, .int .i64 0] 25))) hg)
  clear h hg
  go_enter Try.func6, Try.ntmps6
  go_wp2_with fail
  refine hfr.out.mono ?_
  rintro e w1 ⟨rfl, hs1, hb1⟩
  have e9 : (w.alloc (.cells #[.int .i64 0, .int .i64 0, .int .i64 0] 25)).heap.size = w.heap.size + 1 := by simp
  rw [e9] at hs1
  have hR1 := own_block hb1
  have hca := Lib.hid (carb_any _ 0 w1 hs1 (by omega))
  have hbw := (below_a1 w (.cells #[.int .i64 0, .int .i64 0, .int .i64 0] 25)).step hb1
  have hz1 := hs1.lt
  have hz2 := own_lt hR1
  clear hfr hs1
  go_wp2_with fail
  refine hca.out.mono ?_
  rintro e w2 ⟨⟨⟨F, LL, E⟩, hok, hf, hl, rfl⟩, hd⟩
  have hR2 := (hd.block _ hz2 (by omega)).trans hR1
  have hbw2 : Below w.heap.size w w2 := ⟨hd.os.trans hbw.os, hd.tape.trans hbw.tape, hd.output.trans hbw.output, Nat.le_trans hbw.size hd.size, fun k hk => (hd.block k (by have := hbw.size; omega) (by omega)).trans (hbw.block k hk)⟩
  simp only at hok hf hl
  replace hok := Lib.hid hok
  clear hca hd hR1 hbw
  have q0 := own_cell hR2 (o := 0) rfl
  have q1 := own_cell hR2 (o := 1) rfl
  have q2 := own_cell hR2 (o := 2) rfl
  have fq0 := own_frozen hR2 0
  have fq1 := own_frozen hR2 1
  have fq2 := own_frozen hR2 2
  have hlR := own_lt hR2
  have hR8 := set_block13d (i := 2) (v := .int .i64 E) (set_block13d (i := 1) (v := .int .i64 LL) (set_block13d (i := 0) (v := .int .i64 F) hR2))
  simp only [List.setIfInBounds_toArray, List.set_cons_zero, List.set_cons_succ] at hR8
  have hbz := ((hbw2.setCell (p := ⟨w.heap.size, 0, none⟩) (Nat.le_refl _) (.int .i64 F)).setCell (p := ⟨w.heap.size, 1, none⟩) (Nat.le_refl _) (.int .i64 LL)).setCell (p := ⟨w.heap.size, 2, none⟩) (Nat.le_refl _) (.int .i64 E)
  clear hR2
  go_wp2
  generalize ((w2.setCell ⟨w.heap.size, 0, none⟩ (.int .i64 F)).setCell ⟨w.heap.size, 1, none⟩ (.int .i64 LL)).setCell ⟨w.heap.size, 2, none⟩ (.int .i64 E) = wz at *
  have hlz := own_lt hR8
  have k0 := own_cell hR8 (o := 0) rfl
  have k1 := own_cell hR8 (o := 1) rfl
  have k2 := own_cell hR8 (o := 2) rfl
  refine bodyPost_ret (v := .agg #[.int .i64 F, .int .i64 LL, .int .i64 E]) (by simp [results, Try.results6, go_sem, k0, k1, k2, hlz]) rfl ?_
  exact ⟨⟨F, LL, E⟩, hok.out, hf, hl, rfl, hbz⟩
set_option maxRecDepth 100000 in
set_option maxHeartbeats 2400000 in
theorem a2ways_any (A : Option Addr) (n c : Nat) (xs : List Int) (w : World) (hn : n ≤ maxLen) (h : Bytes w A n xs) (hg : ∀ x ∈ xs, byteGood x) :
    Calls Try.prog 12 #[.slice A n c] w fun e w' => ∃ x : WaysD, waB x = true ∧ e = .returned (.agg #[.int .i64 x.typing, .int .i64 x.sheet, .int .i64 x.stencil, .int .i64 x.pull]) ∧ Below w.heap.size w w' := by
  have hfr := Lib.hid (from_any A n c xs _ hn (h.below (below_a1 w (.cells #[.int .i64 0, .int .i64 0, .int .i64 0, .int .i64 0] 32))) hg)
  clear h hg
  go_enter Try.func12, Try.ntmps12
  go_wp2_with fail
  refine hfr.out.mono ?_
  rintro e w1 ⟨rfl, hs1, hb1⟩
  have e9 : (w.alloc (.cells #[.int .i64 0, .int .i64 0, .int .i64 0, .int .i64 0] 32)).heap.size = w.heap.size + 1 := by simp
  rw [e9] at hs1
  have hR1 := own_block hb1
  have hbw1 := (below_a1 w (.cells #[.int .i64 0, .int .i64 0, .int .i64 0, .int .i64 0] 32)).step hb1
  have hz1 := own_lt hR1
  have hsl := hs1.lt
  clear hfr hb1
  have hd1 := Drawn.refl (w.heap.size + 1) w1.heap.size w1
  have hpk := Lib.hid (pick_any (w.heap.size + 1) 0 60 _ hs1 (by omega) (by omega))
  go_wp2_with fail
  refine hpk.out.mono ?_
  rintro e w2 ⟨x, rfl, x0, x1, _, hs2, hg2⟩
  have x2 := x1 (by omega)
  have hw1 : IntKind.i64.wrap (1 + x) = 1 + x := IntWalk.i64_in _ (by omega)
  obtain ⟨a, ha⟩ : ∃ a, 1 + x = a := ⟨_, rfl⟩
  rw [ha] at hw1
  have hR2 := block_row hR1 hg2 (by omega)
  have hd2 := hd1.pick hg2 (Nat.le_refl _)
  have hz2 := hg2.size
  have hs3 := hs2.below (below_a1 w2 (.cells #[.int .i64 a, .int .i64 0, .int .i64 0, .int .i64 0] 32))
  have hd3 := hd2.below (below_a1 w2 (.cells #[.int .i64 a, .int .i64 0, .int .i64 0, .int .i64 0] 32)) hz2
  have hR3 : (w2.alloc (.cells #[.int .i64 a, .int .i64 0, .int .i64 0, .int .i64 0] 32)).heap[w.heap.size]? = _ := (heap_alloc_old _ _ (own_lt hR2)).trans hR2
  have hB3 : (w2.alloc (.cells #[.int .i64 a, .int .i64 0, .int .i64 0, .int .i64 0] 32)).heap[w2.heap.size]? = _ := heap_alloc_new _ _
  have hq2 : w1.heap.size ≤ w2.heap.size := hz2
  have hz3 : w1.heap.size ≤ (w2.alloc (.cells #[.int .i64 a, .int .i64 0, .int .i64 0, .int .i64 0] 32)).heap.size := by simp; omega
  clear hR1 hs1 hd1 hpk hs2 hg2 hR2 hd2 x1
  have hpk1 := Lib.hid (pick_any (w.heap.size + 1) (0 + 2) 12 _ hs3 (by omega) (by omega))
  go_wp2_with fail
  refine hpk1.out.mono ?_
  rintro e v1 ⟨y1, rfl, yy1, yz1, _, hsA1, hgA1⟩
  have yw1 := yz1 (by omega)
  have hwA1 : IntKind.i64.wrap (1 + y1) = 1 + y1 := IntWalk.i64_in _ (by omega)
  obtain ⟨b, hv1⟩ : ∃ b, 1 + y1 = b := ⟨_, rfl⟩
  rw [hv1] at hwA1
  have hRA1 := block_row hR3 hgA1 (by omega)
  have hBA1 := block_row hB3 hgA1 (by omega)
  have hdA1 := hd3.pick hgA1 hz3
  have hzA1 : w1.heap.size ≤ v1.heap.size := Nat.le_trans hz3 hgA1.size
  have b0 := own_cell hBA1 (o := 0) rfl
  have b1 := own_cell hBA1 (o := 1) rfl
  have b2 := own_cell hBA1 (o := 2) rfl
  have b3 := own_cell hBA1 (o := 3) rfl
  have fb0 := own_frozen hBA1 0
  have fb1 := own_frozen hBA1 1
  have fb2 := own_frozen hBA1 2
  have fb3 := own_frozen hBA1 3
  have hlA1 := own_lt hBA1
  have hBB1 := set_block13d (i := 1) (v := .int .i64 b) hBA1
  simp only [List.setIfInBounds_toArray, List.set_cons_zero, List.set_cons_succ] at hBB1
  have hRB1 := set_other13d (R := w2.heap.size) (i := 1) (v := .int .i64 b) hRA1 (by omega)
  have hsB1 := hsA1.grown (grown_set13 (g := w2.heap.size) (o := 1) (v := .int .i64 b)) (by omega)
  have hdB1 := hdA1.young (grown_set13 (g := w2.heap.size) (o := 1) (v := .int .i64 b)) hzA1 hq2
  have hzB1 : w1.heap.size ≤ (v1.setCell ⟨w2.heap.size, 1, none⟩ (.int .i64 b)).heap.size := by simpa [World.setCell] using hzA1
  clear hR3 hB3 hs3 hd3 hpk1 hsA1 hgA1 hRA1 hdA1 yz1
  have keep1 := Lib.hid True.intro
  have hpk2 := Lib.hid (pick_any (w.heap.size + 1) ((0 + 2) + 2) 190 _ hsB1 (by omega) (by omega))
  go_wp2_with fail
  refine hpk2.out.mono ?_
  rintro e v2 ⟨y2, rfl, yy2, yz2, _, hsA2, hgA2⟩
  have yw2 := yz2 (by omega)
  have hwA2 : IntKind.i64.wrap (1 + y2) = 1 + y2 := IntWalk.i64_in _ (by omega)
  obtain ⟨s, hv2⟩ : ∃ s, 1 + y2 = s := ⟨_, rfl⟩
  rw [hv2] at hwA2
  have hRA2 := block_row hRB1 hgA2 (by omega)
  have hBA2 := block_row hBB1 hgA2 (by omega)
  have hdA2 := hdB1.pick hgA2 hzB1
  have hzA2 : w1.heap.size ≤ v2.heap.size := Nat.le_trans hzB1 hgA2.size
  have b0 := own_cell hBA2 (o := 0) rfl
  have b1 := own_cell hBA2 (o := 1) rfl
  have b2 := own_cell hBA2 (o := 2) rfl
  have b3 := own_cell hBA2 (o := 3) rfl
  have fb0 := own_frozen hBA2 0
  have fb1 := own_frozen hBA2 1
  have fb2 := own_frozen hBA2 2
  have fb3 := own_frozen hBA2 3
  have hlA2 := own_lt hBA2
  have hBB2 := set_block13d (i := 2) (v := .int .i64 s) hBA2
  simp only [List.setIfInBounds_toArray, List.set_cons_zero, List.set_cons_succ] at hBB2
  have hRB2 := set_other13d (R := w2.heap.size) (i := 2) (v := .int .i64 s) hRA2 (by omega)
  have hsB2 := hsA2.grown (grown_set13 (g := w2.heap.size) (o := 2) (v := .int .i64 s)) (by omega)
  have hdB2 := hdA2.young (grown_set13 (g := w2.heap.size) (o := 2) (v := .int .i64 s)) hzA2 hq2
  have hzB2 : w1.heap.size ≤ (v2.setCell ⟨w2.heap.size, 2, none⟩ (.int .i64 s)).heap.size := by simpa [World.setCell] using hzA2
  clear hRB1 hBB1 hsB1 hdB1 hpk2 hsA2 hgA2 hRA2 hdA2 yz2
  have keep2 := Lib.hid True.intro
  have hpk3 := Lib.hid (pick_any (w.heap.size + 1) (((0 + 2) + 2) + 2) 12 _ hsB2 (by omega) (by omega))
  go_wp2_with fail
  refine hpk3.out.mono ?_
  rintro e v3 ⟨y3, rfl, yy3, yz3, _, hsA3, hgA3⟩
  have yw3 := yz3 (by omega)
  have hwA3 : IntKind.i64.wrap (1 + y3) = 1 + y3 := IntWalk.i64_in _ (by omega)
  obtain ⟨p, hv3⟩ : ∃ p, 1 + y3 = p := ⟨_, rfl⟩
  rw [hv3] at hwA3
  have hRA3 := block_row hRB2 hgA3 (by omega)
  have hBA3 := block_row hBB2 hgA3 (by omega)
  have hdA3 := hdB2.pick hgA3 hzB2
  have hzA3 : w1.heap.size ≤ v3.heap.size := Nat.le_trans hzB2 hgA3.size
  have b0 := own_cell hBA3 (o := 0) rfl
  have b1 := own_cell hBA3 (o := 1) rfl
  have b2 := own_cell hBA3 (o := 2) rfl
  have b3 := own_cell hBA3 (o := 3) rfl
  have fb0 := own_frozen hBA3 0
  have fb1 := own_frozen hBA3 1
  have fb2 := own_frozen hBA3 2
  have fb3 := own_frozen hBA3 3
  have hlA3 := own_lt hBA3
  have hBB3 := set_block13d (i := 3) (v := .int .i64 p) hBA3
  simp only [List.setIfInBounds_toArray, List.set_cons_zero, List.set_cons_succ] at hBB3
  have hRB3 := set_other13d (R := w2.heap.size) (i := 3) (v := .int .i64 p) hRA3 (by omega)
  have hsB3 := hsA3.grown (grown_set13 (g := w2.heap.size) (o := 3) (v := .int .i64 p)) (by omega)
  have hdB3 := hdA3.young (grown_set13 (g := w2.heap.size) (o := 3) (v := .int .i64 p)) hzA3 hq2
  have hzB3 : w1.heap.size ≤ (v3.setCell ⟨w2.heap.size, 3, none⟩ (.int .i64 p)).heap.size := by simpa [World.setCell] using hzA3
  clear hRB2 hBB2 hsB2 hdB2 hpk3 hsA3 hgA3 hRA3 hdA3 yz3
  have b0' := own_cell hBB3 (o := 0) rfl
  have b1' := own_cell hBB3 (o := 1) rfl
  have b2' := own_cell hBB3 (o := 2) rfl
  have b3' := own_cell hBB3 (o := 3) rfl
  have q0 := own_cell hRB3 (o := 0) rfl
  have q1 := own_cell hRB3 (o := 1) rfl
  have q2 := own_cell hRB3 (o := 2) rfl
  have q3 := own_cell hRB3 (o := 3) rfl
  have fq0 := own_frozen hRB3 0
  have fq1 := own_frozen hRB3 1
  have fq2 := own_frozen hRB3 2
  have fq3 := own_frozen hRB3 3
  have hlR := own_lt hRB3
  have hbw3 : Below w.heap.size w (v3.setCell ⟨w2.heap.size, 3, none⟩ (.int .i64 p)) := ⟨hdB3.os.trans hbw1.os, hdB3.tape.trans hbw1.tape, hdB3.output.trans hbw1.output, Nat.le_trans hbw1.size hdB3.size, fun k hk => (hdB3.block k (by omega) (by omega)).trans (hbw1.block k hk)⟩
  have hR8 := set_block13d (i := 3) (v := .int .i64 p) (set_block13d (i := 2) (v := .int .i64 s) (set_block13d (i := 1) (v := .int .i64 b) (set_block13d (i := 0) (v := .int .i64 a) hRB3)))
  simp only [List.setIfInBounds_toArray, List.set_cons_zero, List.set_cons_succ] at hR8
  have hbz := (((hbw3.setCell (p := ⟨w.heap.size, 0, none⟩) (Nat.le_refl _) (.int .i64 a)).setCell (p := ⟨w.heap.size, 1, none⟩) (Nat.le_refl _) (.int .i64 b)).setCell (p := ⟨w.heap.size, 2, none⟩) (Nat.le_refl _) (.int .i64 s)).setCell (p := ⟨w.heap.size, 3, none⟩) (Nat.le_refl _) (.int .i64 p)
  have hfin : Hid (waB ⟨a, b, s, p⟩ = true) := Lib.hid (waB_iff.2 (by simp only; omega))
  have hne7 : w.heap.size ≠ w2.heap.size := by omega
  have hlB3 := own_lt hBB3
  clear hBA3 hBA2 hBA1 hdB3 hsB3 hbw3 hRB3 hBB3
  go_wp2
  generalize ((((v3.setCell ⟨w2.heap.size, 3, none⟩ (.int .i64 p)).setCell ⟨w.heap.size, 0, none⟩ (.int .i64 a)).setCell ⟨w.heap.size, 1, none⟩ (.int .i64 b)).setCell ⟨w.heap.size, 2, none⟩ (.int .i64 s)).setCell ⟨w.heap.size, 3, none⟩ (.int .i64 p) = wz at *
  have hlz := own_lt hR8
  have k0 := own_cell hR8 (o := 0) rfl
  have k1 := own_cell hR8 (o := 1) rfl
  have k2 := own_cell hR8 (o := 2) rfl
  have k3 := own_cell hR8 (o := 3) rfl
  refine bodyPost_ret (v := .agg #[.int .i64 a, .int .i64 b, .int .i64 s, .int .i64 p]) (by simp [results, Try.results12, go_sem, k0, k1, k2, k3, hlz]) rfl ?_
  exact ⟨⟨a, b, s, p⟩, hfin.out, rfl, hbz⟩
end Go.Proofs.Ytlnhjknpeafgoaa
