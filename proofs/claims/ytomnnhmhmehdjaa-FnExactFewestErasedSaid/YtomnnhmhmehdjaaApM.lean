/- Several texts, one behind the other. -/
import Derived.Test.YtomnnhmhmehdjaaOv3
import Derived.Test.YtomnnhmhmehdjaaOi2
import Derived.Deep.WholeRow
import Derived.Test.YtomnnhmhmehdjaaPp3
import Derived.Test.YtomnnhmhmehdjaaOwn0
import Derived.Test.YtomnnhmhmehdjaaShelf
import Derived.Shelf.Strings.BuilderK
import Derived.Test.YtomnnhmhmehdjaaOwn8
import Derived.Test.YtomnnhmhmehdjaaOv4
/- Corrections: two lines of the same length, and what corrects a letter, by the program. -/
namespace Go.Proofs.Ytomnnhmhmehdjaa
open Go.RowKit Go.ChangeShapes Go.WideShapes Go.Deep Go.ChangeMaps Go.MapKept
set_option linter.unusedVariables false
set_option linter.unusedSimpArgs false

def RlOut (ps : List OverD) (v : Int) (w : World) (e : Ending) (w' : World) : Prop :=
  Below w.heap.size w w' ∧ ((v ≠ 0 ∧ e = .returned (.tuple #[.agg #[.map none, .map none], .int .i64 v])) ∨
    (v = 0 ∧ ∃ r1 r2, e = .returned (.tuple #[.agg #[.map (some r1), .map (some r2)], .int .i64 0]) ∧ MapIs bpV w' r1 (seenE ps) ∧ MapIs bpV w' r2 (topE ps)))
theorem ovB_oneB5 {ps : List OverD} (h : ovB ps = true) : ∀ x ∈ ps, oneB x = true := by
  simp only [ovB, Bool.and_eq_true] at h
  exact okFrom_one h.1
theorem map_no12 {w : World} {r : Nat} {l : List ((UInt8 × UInt8) × Value)} {cs : Array Value} {T : TypeId} (h : MapIs bpV w r l) (h2 : w.heap[r]? = some (.cells cs T)) : False := by
  obtain ⟨es, c, hb, _⟩ := h
  rw [hb] at h2
  cases h2
set_option maxRecDepth 100000 in
set_option maxHeartbeats 2400000 in
theorem readl12 (A : Option Addr) (n c : Nat) (ps : List OverD) (t s : ByteArray) {v : Int} (hv : codeC ps t s = v) (w : World) (h : Overs w A n ps) (hn : n ≤ 1048576) (hg : ∀ x ∈ ps, x.good) (ht : t.size ≤ 1048576) (hs : s.size ≤ 1048576) :
    Calls Try.prog 61 #[.slice A n c, .string t, .string s] w (RlOut ps v w) := by
  have htm : t.size ≤ maxLen := by unfold maxLen; omega
  have hsm : s.size ≤ maxLen := by unfold maxLen; omega
  have hh := h.below (below_a1 w (.cells #[.map none, .map none] 74))
  cases h1 : ovB ps with
  | false =>
    have hres : Hid (v = 1) := Lib.hid (by rw [← hv, codeC, h1]; rfl)
    have hc := Lib.hid (newov12 A n c ps h1 _ hh hn hg)
    clear hv h1 h hg hh
    go_enter Try.func61, Try.ntmps61
    go_wp2_with fail
    refine (hc.out).mono ?_
    rintro e w1 ⟨hb1, ⟨_, rfl⟩ | ⟨h9, _⟩⟩
    · have hR := own_block hb1
      have hbw := (below_a1 _ _).step hb1
      clear hb1
      have hR1 : (w1.alloc (.cells #[.map none, .map none] 74)).heap[w.heap.size]? = some (.cells #[.map none, .map none] 74) := (heap_alloc_old _ _ (own_lt hR)).trans hR
      have L0 := own_cell hR1 (o := 0) rfl
      have L1 := own_cell hR1 (o := 1) rfl
      have F0 := own_frozen hR1 0
      have F1 := own_frozen hR1 1
      have hlR := own_lt hR1
      have hbw2 := hbw.alloc hbw.size (.cells #[.map none, .map none] 74)
      have hZ := set_block12 (i := 1) (v := .map none) (set_block12 (i := 0) (v := .map none) hR1)
      simp only [List.setIfInBounds_toArray, List.set_cons_zero, List.set_cons_succ] at hZ
      have hbz : Below w.heap.size w (((w1.alloc (.cells #[.map none, .map none] 74)).setCell ⟨w.heap.size, 0, none⟩ (.map none)).setCell ⟨w.heap.size, 1, none⟩ (.map none)) := (hbw2.setCell (Nat.le_refl _) _).setCell (Nat.le_refl _) _
      clear hR hR1 hbw hbw2
      go_wp2
      generalize (((w1.alloc (.cells #[.map none, .map none] 74)).setCell ⟨w.heap.size, 0, none⟩ (.map none)).setCell ⟨w.heap.size, 1, none⟩ (.map none)) = wz at *
      have hlz := own_lt hZ
      have z0 := own_cell hZ (o := 0) rfl
      have z1 := own_cell hZ (o := 1) rfl
      refine bodyPost_ret (v := .tuple #[.agg #[.map none, .map none], .int .i64 1]) (by simp [results, Try.results61, go_sem, z0, z1, hlz]) rfl ?_
      exact ⟨hbz, .inl ⟨by rw [hres.out]; decide, by rw [hres.out]⟩⟩
    · cases h9
  | true =>
    have hc := Lib.hid (newov12 A n c ps h1 _ hh hn hg)
    cases h2 : lineC t with
    | false =>
      have hres : Hid (v = 2) := Lib.hid (by rw [← hv, codeC, h1, h2]; rfl)
      have hc2 := Lib.hid (fun W => line12i t h2 W htm)
      clear hv h1 h hg hh h2
      go_enter Try.func61, Try.ntmps61
      go_wp2_with fail
      refine (hc.out).mono ?_
      rintro e w1 ⟨hb1, ⟨h9, _⟩ | ⟨_, r1, r2, rfl, hM1, hM2⟩⟩
      · cases h9
      · have hR := own_block hb1
        have hbw := (below_a1 _ _).step hb1
        clear hb1
        go_wp2_with fail
        refine (hc2.out _).mono ?_
        rintro e w2 ⟨rfl, rfl⟩
        have hR1 : (w1.alloc (.cells #[.map (some r1), .map (some r2)] 74)).heap[w.heap.size]? = some (.cells #[.map none, .map none] 74) := (heap_alloc_old _ _ (own_lt hR)).trans hR
        have L0 := own_cell hR1 (o := 0) rfl
        have L1 := own_cell hR1 (o := 1) rfl
        have F0 := own_frozen hR1 0
        have F1 := own_frozen hR1 1
        have hlR := own_lt hR1
        have hbw2 := hbw.alloc hbw.size (.cells #[.map (some r1), .map (some r2)] 74)
        have hZ := set_block12 (i := 1) (v := .map none) (set_block12 (i := 0) (v := .map none) hR1)
        simp only [List.setIfInBounds_toArray, List.set_cons_zero, List.set_cons_succ] at hZ
        have hbz : Below w.heap.size w (((w1.alloc (.cells #[.map (some r1), .map (some r2)] 74)).setCell ⟨w.heap.size, 0, none⟩ (.map none)).setCell ⟨w.heap.size, 1, none⟩ (.map none)) := (hbw2.setCell (Nat.le_refl _) _).setCell (Nat.le_refl _) _
        clear hR hR1 hbw hbw2
        go_wp2
        generalize (((w1.alloc (.cells #[.map (some r1), .map (some r2)] 74)).setCell ⟨w.heap.size, 0, none⟩ (.map none)).setCell ⟨w.heap.size, 1, none⟩ (.map none)) = wz at *
        have hlz := own_lt hZ
        have z0 := own_cell hZ (o := 0) rfl
        have z1 := own_cell hZ (o := 1) rfl
        refine bodyPost_ret (v := .tuple #[.agg #[.map none, .map none], .int .i64 2]) (by simp [results, Try.results61, go_sem, z0, z1, hlz]) rfl ?_
        exact ⟨hbz, .inl ⟨by rw [hres.out]; decide, by rw [hres.out]⟩⟩
    | true =>
      have hc2 := Lib.hid (fun W => line12i t h2 W htm)
      cases h3 : lineC s with
      | false =>
        have hres : Hid (v = 2) := Lib.hid (by rw [← hv, codeC, h1, h2, h3]; rfl)
        have hc3 := Lib.hid (fun W => line12i s h3 W hsm)
        clear hv h1 h hg hh h2 h3
        go_enter Try.func61, Try.ntmps61
        go_wp2_with fail
        refine (hc.out).mono ?_
        rintro e w1 ⟨hb1, ⟨h9, _⟩ | ⟨_, r1, r2, rfl, hM1, hM2⟩⟩
        · cases h9
        · have hR := own_block hb1
          have hbw := (below_a1 _ _).step hb1
          clear hb1
          go_wp2_with fail
          refine (hc2.out _).mono ?_
          rintro e w2 ⟨rfl, rfl⟩
          go_wp2_with fail
          refine (hc3.out _).mono ?_
          rintro e w2 ⟨rfl, rfl⟩
          have hR1 : (w1.alloc (.cells #[.map (some r1), .map (some r2)] 74)).heap[w.heap.size]? = some (.cells #[.map none, .map none] 74) := (heap_alloc_old _ _ (own_lt hR)).trans hR
          have L0 := own_cell hR1 (o := 0) rfl
          have L1 := own_cell hR1 (o := 1) rfl
          have F0 := own_frozen hR1 0
          have F1 := own_frozen hR1 1
          have hlR := own_lt hR1
          have hbw2 := hbw.alloc hbw.size (.cells #[.map (some r1), .map (some r2)] 74)
          have hZ := set_block12 (i := 1) (v := .map none) (set_block12 (i := 0) (v := .map none) hR1)
          simp only [List.setIfInBounds_toArray, List.set_cons_zero, List.set_cons_succ] at hZ
          have hbz : Below w.heap.size w (((w1.alloc (.cells #[.map (some r1), .map (some r2)] 74)).setCell ⟨w.heap.size, 0, none⟩ (.map none)).setCell ⟨w.heap.size, 1, none⟩ (.map none)) := (hbw2.setCell (Nat.le_refl _) _).setCell (Nat.le_refl _) _
          clear hR hR1 hbw hbw2
          go_wp2
          generalize (((w1.alloc (.cells #[.map (some r1), .map (some r2)] 74)).setCell ⟨w.heap.size, 0, none⟩ (.map none)).setCell ⟨w.heap.size, 1, none⟩ (.map none)) = wz at *
          have hlz := own_lt hZ
          have z0 := own_cell hZ (o := 0) rfl
          have z1 := own_cell hZ (o := 1) rfl
          refine bodyPost_ret (v := .tuple #[.agg #[.map none, .map none], .int .i64 2]) (by simp [results, Try.results61, go_sem, z0, z1, hlz]) rfl ?_
          exact ⟨hbz, .inl ⟨by rw [hres.out]; decide, by rw [hres.out]⟩⟩
      | true =>
        have hc3 := Lib.hid (fun W => line12i s h3 W hsm)
        by_cases h4 : t.size = s.size
        · have hres : Hid (v = 0) := Lib.hid (by rw [← hv, codeC, h1, h2, h3, if_pos rfl, if_pos rfl, if_pos rfl, if_pos h4])
          have g1 : ((t.size : Int) == (s.size : Int)) = true := beq_iff_eq.2 (by omega)
          have g2 : ((t.size : Int) != (s.size : Int)) = false := by rw [bne, g1]; rfl
          have g3 : (t.size == s.size) = true := beq_iff_eq.2 h4
          replace h4 := Lib.hid h4
          clear hv h1 h hg hh h2 h3
          go_enter Try.func61, Try.ntmps61
          go_wp2_with fail
          refine (hc.out).mono ?_
          rintro e w1 ⟨hb1, ⟨h9, _⟩ | ⟨_, r1, r2, rfl, hM1, hM2⟩⟩
          · cases h9
          · have hR := own_block hb1
            have hbw := (below_a1 _ _).step hb1
            clear hb1
            go_wp2_with fail
            refine (hc2.out _).mono ?_
            rintro e w2 ⟨rfl, rfl⟩
            go_wp2_with fail
            refine (hc3.out _).mono ?_
            rintro e w2 ⟨rfl, rfl⟩
            have hR1 : (w1.alloc (.cells #[.map (some r1), .map (some r2)] 74)).heap[w.heap.size]? = some (.cells #[.map none, .map none] 74) := (heap_alloc_old _ _ (own_lt hR)).trans hR
            have L0 := own_cell hR1 (o := 0) rfl
            have L1 := own_cell hR1 (o := 1) rfl
            have F0 := own_frozen hR1 0
            have F1 := own_frozen hR1 1
            have hlR := own_lt hR1
            have hbw2 := hbw.alloc hbw.size (.cells #[.map (some r1), .map (some r2)] 74)
            have e0 : (w1.alloc (.cells #[.map (some r1), .map (some r2)] 74)).cell? ⟨w1.heap.size, 0, none⟩ = some (.map (some r1)) := cell_new rfl rfl
            have e1 : (w1.alloc (.cells #[.map (some r1), .map (some r2)] 74)).cell? ⟨w1.heap.size, 1, none⟩ = some (.map (some r2)) := cell_new rfl rfl
            have hZ := set_block12 (i := 1) (v := .map (some r2)) (set_block12 (i := 0) (v := .map (some r1)) hR1)
            simp only [List.setIfInBounds_toArray, List.set_cons_zero, List.set_cons_succ] at hZ
            have hbz : Below w.heap.size w (((w1.alloc (.cells #[.map (some r1), .map (some r2)] 74)).setCell ⟨w.heap.size, 0, none⟩ (.map (some r1))).setCell ⟨w.heap.size, 1, none⟩ (.map (some r2))) := (hbw2.setCell (Nat.le_refl _) _).setCell (Nat.le_refl _) _
            have hMA1 := hM1.below (B := w1.heap.size) (below_a1 w1 (.cells #[.map (some r1), .map (some r2)] 74)) hM1.lt
            have hMA2 := hM2.below (B := w1.heap.size) (below_a1 w1 (.cells #[.map (some r1), .map (some r2)] 74)) hM2.lt
            have hn1 : w.heap.size ≠ r1 := fun e => map_no12 hM1 (e ▸ hR)
            have hn2 : w.heap.size ≠ r2 := fun e => map_no12 hM2 (e ▸ hR)
            have hMB1 : Hid (MapIs bpV (((w1.alloc (.cells #[.map (some r1), .map (some r2)] 74)).setCell ⟨w.heap.size, 0, none⟩ (.map (some r1))).setCell ⟨w.heap.size, 1, none⟩ (.map (some r2))) r1 (seenE ps)) := Lib.hid (hMA1.block (set_else12 (set_else12 rfl hn1) hn1))
            have hMB2 : Hid (MapIs bpV (((w1.alloc (.cells #[.map (some r1), .map (some r2)] 74)).setCell ⟨w.heap.size, 0, none⟩ (.map (some r1))).setCell ⟨w.heap.size, 1, none⟩ (.map (some r2))) r2 (topE ps)) := Lib.hid (hMA2.block (set_else12 (set_else12 rfl hn2) hn2))
            clear hM1 hM2 hMA1 hMA2
            clear hR hR1 hbw hbw2
            go_wp2
            generalize (((w1.alloc (.cells #[.map (some r1), .map (some r2)] 74)).setCell ⟨w.heap.size, 0, none⟩ (.map (some r1))).setCell ⟨w.heap.size, 1, none⟩ (.map (some r2))) = wz at *
            have hlz := own_lt hZ
            have z0 := own_cell hZ (o := 0) rfl
            have z1 := own_cell hZ (o := 1) rfl
            refine bodyPost_ret (v := .tuple #[.agg #[.map (some r1), .map (some r2)], .int .i64 0]) (by simp [results, Try.results61, go_sem, z0, z1, hlz]) rfl ?_
            exact ⟨hbz, .inr ⟨hres.out, r1, r2, rfl, hMB1.out, hMB2.out⟩⟩
        · have hres : Hid (v = 8) := Lib.hid (by rw [← hv, codeC, h1, h2, h3, if_pos rfl, if_pos rfl, if_pos rfl, if_neg h4])
          have g1 : ((t.size : Int) == (s.size : Int)) = false := beq_eq_false_iff_ne.2 (by omega)
          have g2 : ((t.size : Int) != (s.size : Int)) = true := by rw [bne, g1]; rfl
          have g3 : (t.size == s.size) = false := beq_eq_false_iff_ne.2 h4
          replace h4 := Lib.hid h4
          clear hv h1 h hg hh h2 h3
          go_enter Try.func61, Try.ntmps61
          go_wp2_with fail
          refine (hc.out).mono ?_
          rintro e w1 ⟨hb1, ⟨h9, _⟩ | ⟨_, r1, r2, rfl, hM1, hM2⟩⟩
          · cases h9
          · have hR := own_block hb1
            have hbw := (below_a1 _ _).step hb1
            clear hb1
            go_wp2_with fail
            refine (hc2.out _).mono ?_
            rintro e w2 ⟨rfl, rfl⟩
            go_wp2_with fail
            refine (hc3.out _).mono ?_
            rintro e w2 ⟨rfl, rfl⟩
            have hR1 : (w1.alloc (.cells #[.map (some r1), .map (some r2)] 74)).heap[w.heap.size]? = some (.cells #[.map none, .map none] 74) := (heap_alloc_old _ _ (own_lt hR)).trans hR
            have L0 := own_cell hR1 (o := 0) rfl
            have L1 := own_cell hR1 (o := 1) rfl
            have F0 := own_frozen hR1 0
            have F1 := own_frozen hR1 1
            have hlR := own_lt hR1
            have hbw2 := hbw.alloc hbw.size (.cells #[.map (some r1), .map (some r2)] 74)
            have hZ := set_block12 (i := 1) (v := .map none) (set_block12 (i := 0) (v := .map none) hR1)
            simp only [List.setIfInBounds_toArray, List.set_cons_zero, List.set_cons_succ] at hZ
            have hbz : Below w.heap.size w (((w1.alloc (.cells #[.map (some r1), .map (some r2)] 74)).setCell ⟨w.heap.size, 0, none⟩ (.map none)).setCell ⟨w.heap.size, 1, none⟩ (.map none)) := (hbw2.setCell (Nat.le_refl _) _).setCell (Nat.le_refl _) _
            clear hR hR1 hbw hbw2
            go_wp2
            generalize (((w1.alloc (.cells #[.map (some r1), .map (some r2)] 74)).setCell ⟨w.heap.size, 0, none⟩ (.map none)).setCell ⟨w.heap.size, 1, none⟩ (.map none)) = wz at *
            have hlz := own_lt hZ
            have z0 := own_cell hZ (o := 0) rfl
            have z1 := own_cell hZ (o := 1) rfl
            refine bodyPost_ret (v := .tuple #[.agg #[.map none, .map none], .int .i64 8]) (by simp [results, Try.results61, go_sem, z0, z1, hlz]) rfl ?_
            exact ⟨hbz, .inl ⟨by rw [hres.out]; decide, by rw [hres.out]⟩⟩
end Go.Proofs.Ytomnnhmhmehdjaa

/- Corrections: what each sign of a plan does, by the program. -/
namespace Go.Proofs.Ytomnnhmhmehdjaa
open Go.RowKit Go.ChangeShapes Go.WideShapes Go.Deep
set_option linter.unusedVariables false
set_option linter.unusedSimpArgs false

def deedV (c : Nat) : Value := if c = 46 then .func (.func 104) #[] #[] else if c = 43 then .func (.func 58) #[] #[] else if c = 35 then .func (.func 105) #[] #[] else .nilFunc
def deedArr : Array Value := ((List.range 256).map deedV).toArray
theorem deedArr_is : deedArr.toList = ((Try.zeroCells128.toList.set 46 (.func (.func 104) #[] #[])).set 43 (.func (.func 58) #[] #[])).set 35 (.func (.func 105) #[] #[]) := by kernel_rfl
theorem deedArr_eq : deedArr.toList = (List.range 256).map deedV := rfl
theorem deedArr_at {c : Nat} (h : c < 256) : deedArr[c]? = some (deedV c) := by
  rw [← Array.getElem?_toList, deedArr_eq, List.getElem?_map, List.getElem?_range h]; rfl
theorem deedArr_size : deedArr.size = 256 := by
  rw [← Array.length_toList, deedArr_eq]; simp
theorem deedArr_one : deedArr.all (·.oneCell') = true := by kernel_rfl
theorem results_cell {fn : Func} {a : Tmp} {t : TypeId} (h : fn.results = #[.cell a t]) {tmps : Array Value} {P : Program} {w : World} {p : Addr} {v : Value} (hp : tmps.getD a undef = .pointer (some p)) (hl : (loadVar t p).run P w = .ok v w) :
    (results fn tmps).run P w = .ok v w := by
  unfold results
  rw [h]
  have hp2 : tmps[a]?.getD undef = .pointer (some p) := by simpa using hp
  simp [hp2, asAddr, hl, Result.andThen]
set_option maxRecDepth 100000 in
set_option maxHeartbeats 1600000 in
theorem dbs12 (w : World) : Calls Try.prog 94 #[] w fun e w' => e = .returned (.agg deedArr) ∧ Below w.heap.size w w' := by
  have hst := run_storeCells_new (P := Try.prog) w 128 Try.zeroCells128 deedArr (by rw [deedArr_size]; kernel_rfl) (by rw [deedArr_size]; kernel_rfl) deedArr_one
  rw [deedArr_is] at hst
  have hld := run_loadCellsFrom_new (P := Try.prog) w 128 deedArr 256 deedArr_size
  go_enter Try.func94, Try.ntmps94
  go_wp2
  refine bodyPost_ret (v := .agg deedArr) (results_cell Try.results94 rfl (run_loadVar_new w 128 deedArr 256 101 Try.underlying128 (by rw [deedArr_size]; kernel_rfl))) rfl ?_
  exact ⟨rfl, below_a1 _ _⟩
end Go.Proofs.Ytomnnhmhmehdjaa

/- Corrections: the deeds of a plan, by the program. -/
namespace Go.Proofs.Ytomnnhmhmehdjaa
open Go.RowKit Go.ChangeShapes Go.WideShapes Go.Deep
set_option linter.unusedVariables false
set_option linter.unusedSimpArgs false

theorem deedV_yes {c : UInt8} (h : planC c = true) : ∃ f, deedV c.toNat = .func (.func f) #[] #[] := by
  simp only [planC, Bool.or_eq_true, decide_eq_true_eq] at h
  unfold deedV
  rcases h with h | h | h
  · rw [if_pos h]; exact ⟨_, rfl⟩
  · rw [if_neg (by omega), if_pos h]; exact ⟨_, rfl⟩
  · rw [if_neg (by omega), if_neg (by omega), if_pos h]; exact ⟨_, rfl⟩
theorem deedV_no {c : UInt8} (h : planC c = false) : deedV c.toNat = .nilFunc := by
  simp only [planC, Bool.or_eq_false_iff, decide_eq_false_iff_not] at h
  unfold deedV
  rw [if_neg h.1, if_neg h.2.1, if_neg h.2.2]
theorem one8f (f : FuncId) : ∀ u ∈ [Value.func (.func f) #[] #[]], u.oneCell' = true := by
  intro u hu
  simp at hu
  subst hu
  rfl
theorem nil_nil (w : World) : (binOp BinOp.eql 101 .nilFunc .nilFunc).run Try.prog w = .ok (.bool true) w := by kernel_rfl
theorem func_nil (f : FuncId) (w : World) : (binOp BinOp.eql 101 (.func (.func f) #[] #[]) .nilFunc).run Try.prog w = .ok (.bool false) w := by kernel_rfl
def deedL (p : ByteArray) (k : Nat) : List Value := (p.data.toList.take k).map fun c => deedV c.toNat
theorem deedL_next {p : ByteArray} {k : Nat} (hk : k < p.size) : deedL p (k + 1) = deedL p k ++ [deedV (p[k]'hk).toNat] := by
  rw [deedL, take8 (byte_of hk), List.map_append, deedL]; rfl
theorem Try.infoDeed : (Try.prog.info? 101).map (fun i => (i.zero, i.size, i.bytes)) = some (some .nilFunc, 1, 8) := by kernel_rfl
set_option maxRecDepth 100000 in
set_option maxHeartbeats 2400000 in
theorem deeds12 (p : ByteArray) {v : Bool} (hv : planB p = v) (w : World) (hp : p.size ≤ maxLen) :
    Calls Try.prog 69 #[.string p] w fun e w' => ∃ x, e = .returned (.tuple #[x, .bool v]) ∧ Below w.heap.size w w' ∧ (v = true → w'.ownsRow w.heap.size 101 1 x p.size (deedL p p.size)) := by
  have hp' := hp
  unfold maxLen at hp'
  by_cases h60 : (60 : Int) < (p.size : Int)
  · have g1 : decide ((60 : Int) < (p.size : Int)) = true := decide_eq_true h60
    have hr : Hid (v = false) := Lib.hid (by rw [← hv, planB, decide_eq_false (by omega), Bool.and_false])
    clear hv
    go_enter Try.func69, Try.ntmps69
    go_wp2
    go_ret2
    exact ⟨_, by rw [hr.out]; rfl, Below.refl _ _, fun h => by rw [hr.out] at h; cases h⟩
  · have g1 : decide ((60 : Int) < (p.size : Int)) = false := decide_eq_false h60
    have hv2 : Hid (v = p.data.toList.all planC) := Lib.hid (by rw [← hv, planB, decide_eq_true (by omega), Bool.and_true])
    have hdb := Lib.hid (fun W => dbs12 W)
    have hDA := Lib.hid (fun c hc => deedArr_at (c := c) hc)
    have hst := Lib.hid (fun (W : World) => run_storeCells_new (P := Try.prog) W 128 Try.zeroCells128 deedArr (by rw [deedArr_size]; kernel_rfl) (by rw [deedArr_size]; kernel_rfl) deedArr_one)
    obtain ⟨DA, hDe⟩ : ∃ DA, deedArr = DA := ⟨_, rfl⟩
    have hDz := deedArr_size
    rw [hDe] at hdb hDA hst hDz
    clear hDe hv
    obtain ⟨i0, hi, hz0, hz1, hz2⟩ := info_parts Try.infoDeed
    go_enter Try.func69, Try.ntmps69
    go_wp2_with fail
    refine (hdb.out _).mono ?_
    rintro e w1 ⟨rfl, hb1⟩
    have hst1 := hst.out w1
    have hbw1 := Lib.hid hb1
    have hwz1 := hb1.size
    clear hb1 hdb
    go_wp2
    go_loopw [2, 3, 5, 14] (fun _ _ o a wr => ∃ k : Nat, k ≤ p.size ∧ a = .int .i64 (k : Int) ∧ (p.data.toList.take k).all planC = true ∧ wr.heap[w1.heap.size]? = some (.cells DA 128) ∧ wr.ownsRow (w1.heap.size + 1) 101 1 o k (deedL p k) ∧ Below w.heap.size w wr) (fun _ _ _ a _ => (p.size - intOf a).toNat)
    case atStart => exact ⟨0, by omega, rfl, rfl, heap_alloc_new _ _, owns_nil8 _ _ _, hbw1.out.alloc hwz1 _⟩
    case round =>
      rename World => wr
      obtain ⟨k, hk, rfl, hall, hA, hrow, hbw⟩ := hrel
      have hrl := Lib.hid hrow
      replace hall := Lib.hid hall
      clear hrow
      by_cases hlt : k < p.size
      · have hkp : (k : Int) < (p.size : Int) := by omega
        have hk0 : (0 : Int) ≤ (k : Int) := by omega
        have hw1 : IntKind.i64.wrap ((k : Int) + 1) = ((k + 1 : Nat) : Int) := by rw [IntWalk.i64_in _ (by omega)]; omega
        have hby := byte_of hlt
        have hc256 : (p[k]'hlt).toNat < 256 := UInt8.toNat_lt _
        have hcell := own_cell hA (hDA.out _ hc256)
        have hltA := own_lt hA
        have hdn := Lib.hid (deedL_next hlt)
        cases hpc : planC (p[k]'hlt) with
        | false =>
          have hr : Hid (v = false) := Lib.hid (by
            rw [hv2.out]
            exact List.all_eq_false.2 ⟨p[k]'hlt, List.mem_of_getElem? hby, by rw [hpc]; exact Bool.false_ne_true⟩)
          rw [deedV_no hpc] at hcell
          clear hdn hby hpc
          have hnn := nil_nil wr
          go_wp2
          go_ret2
          exact ⟨_, by rw [hr.out]; rfl, hbw, fun h => by rw [hr.out] at h; cases h⟩
        | true =>
          obtain ⟨f, hf⟩ := deedV_yes hpc
          rw [hf] at hcell hdn
          have hall' : Hid ((p.data.toList.take (k + 1)).all planC = true) := Lib.hid (by have := hall.out; rw [take8 hby, List.all_append]; simp only [this, List.all_cons, List.all_nil, hpc]; rfl)
          clear hby hpc hf
          have hfn := func_nil f wr
          go_wp2_with (at_builtin; refine wpList_append_own _ rfl _ _ 97 rfl (w1.heap.size + 1) 101 i0 _ 1 8 Try.underlying97 hi hz0 hz1 hz2 rfl (by decide) _ _ _ rfl (hrl.out.alloc _) ⟨wr.heap.size, 0, none⟩ 1 1 [.func (.func f) #[] #[]] rfl rfl (news8 _ _ _) (one8f _) (by unfold maxLen; omega) (by omega) (by simp; omega) ?_)
          intro vq wq hown hgr hnil
          have hgq := grown_trans (grown_below (below_a1 wr _) _) hgr
          have hne := fun (j : Nat) hj => owns_ge8 (g := j) hrl.out hj
          have hfin : Hid ((p.data.toList.take (k + 1)).all planC = true ∧ wq.heap[w1.heap.size]? = some (.cells DA 128) ∧ wq.ownsRow (w1.heap.size + 1) 101 1 vq (k + 1) (deedL p (k + 1)) ∧ Below w.heap.size w wq) :=
            Lib.hid ⟨hall'.out, (hgq.block _ hltA (fun e => by have := hne _ e.symm; omega)).trans hA, by rw [hdn.out]; exact hown, hbw.grown hgq hbw.size (fun j hj => by have := hne j hj; omega)⟩
          clear hown hgr hnil hgq hne hrl hbw hA hall hall' hcell hdn
          go_wp2
          go_roundw
          case rel => exact ⟨k + 1, by omega, by go_num, hfin.out⟩
          case measure => simp [intOf]; omega
      · obtain rfl : k = p.size := by omega
        have hr : Hid (v = true) := Lib.hid (by
          have := hall.out
          rw [List.take_of_length_le (show p.data.toList.length ≤ p.size from Nat.le_refl _)] at this
          rw [hv2.out]; exact this)
        go_wp2
        go_ret2
        exact ⟨_, by rw [hr.out]; rfl, hbw, fun _ => owns_mono12 hrl.out (by omega)⟩
end Go.Proofs.Ytomnnhmhmehdjaa

/- A strings.Builder at this program's numbers: what it is written (runes of ASCII, strings). -/
namespace Go.Proofs.Ytomnnhmhmehdjaa
open Go.RowKit Go.Shelf
set_option linter.unusedVariables false
set_option linter.unusedSimpArgs false

abbrev BuiltIs (B b : Nat) (bs : List UInt8) (w : World) : Prop := Lib.IsBuilderF 88 5 B b (Lib.byteCells bs) w
theorem Try.infoU8 : (Try.prog.info? 5).map (fun i => (i.zero, i.size, i.bytes)) = some (some (.int .u8 0), 1, 1) := by kernel_rfl
theorem cell_rune (c : Nat) (h : c < 128) : [Value.int .u8 (c : Int)] = Lib.byteCells [UInt8.ofNat c] := by
  simp [Lib.byteCells]
  omega

set_option maxHeartbeats 1000000 in
set_option maxRecDepth 100000 in
theorem check_fresh (b : Nat) (w : World) (h0 : w.cell? ⟨b, 0, none⟩ = some (.pointer none)) (hsh : w.shape? b = some (88, 2)) (hfz : w.frozen? ⟨b, 0, none⟩ = false) :
    Calls Try.prog 90 #[.pointer (some ⟨b, 0, none⟩)] w fun e w' => e = .returned (.tuple #[]) ∧ w' = w.setCell ⟨b, 0, none⟩ (.pointer (some ⟨b, 0, none⟩)) := by
  obtain ⟨j, hj, hjs⟩ := Option.map_eq_some_iff.1 Try.Builder_Extra_169.sizeBuilder
  go_enter Try.func90, Try.ntmps90
  go_wp2
  rw [Lib.run_to_unsafe w ⟨b, 0, none⟩ Try.underlying86 Try.underlying136 hj (by rw [hjs]; decide) hsh (Nat.zero_lt_succ 1)]
  simp only [Result.andThen]
  rw [Oper.upon_value]
  go_wp2
  rw [run_callFunc_extern Try.func102 (by kernel_rfl) (by kernel_rfl) (by kernel_rfl) (e := Extern.AbiNoEscape.same) (by kernel_rfl)]
  rw [Lib.run_noEscape]
  simp only [Result.andThen]
  rw [Oper.upon_value]
  go_wp2
  rw [Lib.run_from_unsafe w ⟨b, 0, none⟩ Try.underlying136 Try.underlying86 hj hsh Try.Builder_Extra_169.liesBuilder]
  simp only [Result.andThen]
  rw [Oper.upon_value]
  go_wp2
  go_end0
  exact ⟨rfl, rfl⟩
set_option maxHeartbeats 1000000 in
set_option maxRecDepth 100000 in
theorem check_used (b : Nat) (w : World) (h0 : w.cell? ⟨b, 0, none⟩ = some (.pointer (some ⟨b, 0, none⟩))) :
    Calls Try.prog 90 #[.pointer (some ⟨b, 0, none⟩)] w fun e w' => e = .returned (.tuple #[]) ∧ w' = w := by
  obtain ⟨j, hj, _⟩ := Option.map_eq_some_iff.1 Try.Builder_Extra_169.sizeBuilder
  go_enter Try.func90, Try.ntmps90
  go_wp2
  rw [Lib.run_neq_ptr_same w _ Try.underlying86 hj]
  go_wp2
  go_end0
  exact ⟨rfl, rfl⟩
theorem check_any (B b : Nat) (bs : List Value) (w : World) (h : Lib.IsBuilderF 88 5 B b bs w) :
    Calls Try.prog 90 #[.pointer (some ⟨b, 0, none⟩)] w fun e w' => e = .returned (.tuple #[]) ∧ (Lib.BuilderAtF 88 5 B b (.pointer (some ⟨b, 0, none⟩)) bs w' ∧ Below B w w' ∧ Lib.OthersKept 5 (some b) w w') := by
  rcases h with h | h
  · refine (check_fresh b w h.cell0 h.shape h.frozen0).mono ?_
    rintro e w' ⟨rfl, rfl⟩
    exact ⟨rfl, h.used _, (Below.refl B w).setCell (p := ⟨b, 0, none⟩) h.1 _, (Lib.OthersKept.refl _ _ w).setCell ⟨b, 0, none⟩ rfl _⟩
  · refine (check_used b w h.cell0).mono ?_
    rintro e w' ⟨rfl, rfl⟩
    exact ⟨rfl, h, Below.refl B _, Lib.OthersKept.refl _ _ _⟩

end Go.Proofs.Ytomnnhmhmehdjaa

/- A byte is written to a strings.Builder. -/
namespace Go.Proofs.Ytomnnhmhmehdjaa
open Go.RowKit Go.ChangeShapes Go.WideShapes Go.Deep
set_option linter.unusedVariables false
set_option linter.unusedSimpArgs false

theorem one8u (x : Int) : ∀ u ∈ [Value.int .u8 x], u.oneCell' = true := by
  intro u hu
  simp at hu
  subst hu
  rfl
set_option maxHeartbeats 2000000 in
set_option maxRecDepth 100000 in
/-- A byte is written. -/
theorem write_byte8 (B b c : Nat) (bs : List UInt8) (w : World) (h : BuiltIs B b bs w) (hc : c < 128) (hlen : bs.length + 1 ≤ 140737488355328) (hBw : B ≤ w.heap.size) :
    Calls Try.prog 63 #[.pointer (some ⟨b, 0, none⟩), .int .u8 (c : Int)] w fun e w' => e = .returned .nilIface ∧ (BuiltIs B b (bs ++ [UInt8.ofNat c]) w' ∧ Below B w w') := by
  obtain ⟨i0, hi, hz0, hz1, hz2⟩ := info_parts Try.infoU8
  have hbl : (Lib.byteCells bs).length = bs.length := Lib.byteCells_length bs
  go_enter Try.func63, Try.ntmps63
  go_wp2_with fail
  refine (check_any B b _ _ h).mono ?_
  rintro e w1 ⟨rfl, h1, hb1, hk1⟩
  obtain ⟨hB, v, hbk, hown, hne⟩ := h1
  have c0 : w1.cell? ⟨b, 0, none⟩ = some (.pointer (some ⟨b, 0, none⟩)) := by rw [Lib.cell_of_heap hbk]; rfl
  have c1 : w1.cell? ⟨b, 1, none⟩ = some v := by rw [Lib.cell_of_heap hbk]; rfl
  have hlt : b < w1.heap.size := (Array.getElem?_eq_some_iff.1 hbk).1
  have hwz := hb1.size
  rw [hbl] at hown
  go_wp2_with (at_builtin; refine wpList_append_ownF _ rfl _ _ 78 rfl B 5 i0 (.int .u8 0) 1 1 Try.underlying78 hi hz0 hz1 hz2 rfl (by decide) _ _ _ rfl (hown.alloc _) ⟨w1.heap.size, 0, none⟩ 1 1 [.int .u8 (c : Int)] rfl rfl (news8 _ _ _) (one8u _) (by unfold maxLen; omega) (by omega) (by simp; omega) ?_)
  intro v' w2 hown' hgrow _
  have hb2 : w2.heap[b]? = some (.cells #[.pointer (some ⟨b, 0, none⟩), v] 88 (0, 0)) := by
    rw [hgrow.block b (by simp; omega) (fun e => hne e.symm), Lib.alloc_old w1 _ b hlt]
    exact hbk
  have d0 : w2.cell? ⟨b, 0, none⟩ = some (.pointer (some ⟨b, 0, none⟩)) := by rw [Lib.cell_of_heap hb2]; rfl
  have d1 : w2.cell? ⟨b, 1, none⟩ = some v := by rw [Lib.cell_of_heap hb2]; rfl
  have f1 : w2.frozen? ⟨b, 1, none⟩ = false := Lib.frozen_of_heap hb2 1
  obtain ⟨ao, n', cap, rfl⟩ : ∃ ao n' cap, v' = .slice ao n' cap := by
    rcases hown'.2 with ⟨hv, _⟩ | ⟨g, cap, cur, fz, hv, _⟩
    · exact ⟨_, _, _, hv⟩
    · exact ⟨_, _, _, hv⟩
  go_wp2
  go_ret
  refine ⟨rfl, ?_, ?_⟩
  · exact .inr (Lib.BuilderAtF.put (T := 88) (e := 5) hB hb2 (bs' := Lib.byteCells (bs ++ [UInt8.ofNat c])) (by rw [Lib.byteCells_append, ← cell_rune c hc]; simpa [Lib.byteCells_length] using hown') (by decide))
  · exact ((hb1.alloc (by have := hb1.size; omega) _).grown hgrow (by have := hb1.size; simp; omega) (fun k hk => (hown.lt k hk).1)).setCell (p := ⟨b, 1, none⟩) hB _
theorem BuiltAt8.below {T e : TypeId} {B b : Nat} {p : Value} {bs : List Value} {w w' : World} (h : Lib.BuilderAtF T e B b p bs w) (hb : Below w.heap.size w w') : Lib.BuilderAtF T e B b p bs w' := by
  obtain ⟨hB, v, hbk, hown, hne⟩ := h
  exact ⟨hB, v, (hb.block _ (Array.getElem?_eq_some_iff.1 hbk).1).trans hbk, hown.kept (grown_below hb none) (by cases v.ownBlock <;> simp), hne⟩
theorem built8_below {T e : TypeId} {B b : Nat} {bs : List Value} {w w' : World} (h : Lib.IsBuilderF T e B b bs w) (hb : Below w.heap.size w w') : Lib.IsBuilderF T e B b bs w' :=
  h.elim (fun h => .inl (BuiltAt8.below h hb)) (fun h => .inr (BuiltAt8.below h hb))
theorem below_step8 {B : Nat} {a b c : World} (h : Below B a b) (k : Below b.heap.size b c) (hB : B ≤ b.heap.size) : Below B a c := h.trans (k.mono hB)
end Go.Proofs.Ytomnnhmhmehdjaa

/- Corrections: ApplyPlan of the program. -/
namespace Go.Proofs.Ytomnnhmhmehdjaa
open Go.RowKit Go.ChangeShapes Go.WideShapes Go.Deep Go.ChangeMaps Go.MapKept
set_option linter.unusedVariables false
set_option linter.unusedSimpArgs false

theorem lea12 (r1 r2 : Nat) (u l : UInt8) (w : World) : Calls Try.prog 104 #[.agg #[.map (some r1), .map (some r2)], .int .u8 (u.toNat : Int), .int .u8 (l.toNat : Int)] w fun e w' => e = .returned (.tuple #[.int .u8 (u.toNat : Int), .bool true]) ∧ Below w.heap.size w w' := by
  go_enter Try.func104, Try.ntmps104
  go_wp2
  go_ret2
  exact ⟨rfl, below_a1 _ _⟩
theorem era12 (r1 r2 : Nat) (u l : UInt8) (w : World) : Calls Try.prog 105 #[.agg #[.map (some r1), .map (some r2)], .int .u8 (u.toNat : Int), .int .u8 (l.toNat : Int)] w fun e w' => e = .returned (.tuple #[.int .u8 (l.toNat : Int), .bool true]) ∧ Below w.heap.size w w' := by
  go_enter Try.func105, Try.ntmps105
  go_wp2
  go_ret2
  exact ⟨rfl, below_a1 _ _⟩
/-- What a plan does at a place, and whether it can be read. -/
def doR (ps : List OverD) (c u l : UInt8) : UInt8 × Bool := if c.toNat = 35 then (l, true) else if c.toNat = 43 then seeR ps u l else (u, true)
theorem doR_ap {ps : List OverD} {c u l : UInt8} (hu : u.toNat ≠ 0) (hl : l.toNat ≠ 0) {v : UInt8} (hv : (if c.toNat = 35 then l else if c.toNat = 43 then seenV ps u l else u) = v) : doR ps c u l = (v, !decide (v.toNat = 0)) := by
  subst hv
  unfold doR
  by_cases h1 : c.toNat = 35
  · rw [if_pos h1, if_pos h1, decide_eq_false hl]; rfl
  · rw [if_neg h1, if_neg h1]
    by_cases h2 : c.toNat = 43
    · rw [if_pos h2, if_pos h2]
      unfold seeR seenV
      by_cases h3 : u = l
      · rw [if_pos (.inl h3), if_pos h3, decide_eq_false hu]; rfl
      · by_cases h4 : l.toNat = 32
        · rw [if_pos (.inr h4), if_neg h3, if_pos h4, decide_eq_false hu]; rfl
        · rw [if_neg (fun h => h.elim h3 h4), if_neg h3, if_neg h4]
          by_cases h5 : u.toNat = 32
          · rw [if_pos h5, if_pos h5, decide_eq_false hl]; rfl
          · rw [if_neg h5, if_neg h5]
    · rw [if_neg h2, if_neg h2, decide_eq_false hu]; rfl
/-- A deed is done. -/
theorem deed12 (r1 r2 : Nat) (ps : List OverD) (hp : ∀ x ∈ ps, (bAt x.seen 0).toNat ≠ 0) (c u l : UInt8) (hc : planC c = true) (f : FuncId) (hf : deedV c.toNat = .func (.func f) #[] #[]) (w : World) (hS : MapIs bpV w r1 (seenE ps)) :
    Calls Try.prog f #[.agg #[.map (some r1), .map (some r2)], .int .u8 (u.toNat : Int), .int .u8 (l.toNat : Int)] w fun e w' => e = .returned (.tuple #[.int .u8 ((doR ps c u l).1.toNat : Int), .bool (doR ps c u l).2]) ∧ Below w.heap.size w w' := by
  simp only [planC, Bool.or_eq_true, decide_eq_true_eq] at hc
  unfold deedV at hf
  unfold doR
  by_cases h1 : c.toNat = 46
  · rw [if_pos h1] at hf
    cases hf
    rw [if_neg (by omega), if_neg (by omega)]
    exact lea12 r1 r2 u l w
  · rw [if_neg h1] at hf
    by_cases h2 : c.toNat = 43
    · rw [if_pos h2] at hf
      cases hf
      rw [if_neg (by omega), if_pos h2]
      exact see12 r1 r2 ps hp u l w hS
    · rw [if_neg h2] at hf
      by_cases h3 : c.toNat = 35
      · rw [if_pos h3] at hf
        cases hf
        rw [if_pos h3]
        exact era12 r1 r2 u l w
      · omega
theorem bytesIn_at {lo hi : Nat} {s : ByteArray} (h : bytesIn lo hi s = true) {k : Nat} (hk : k < s.size) : lo ≤ (s[k]'hk).toNat ∧ (s[k]'hk).toNat ≤ hi := by
  by_cases hh : lo ≤ (s[k]'hk).toNat ∧ (s[k]'hk).toNat ≤ hi
  · exact hh
  · rw [bytesIn_no hk hh] at h; cases h
theorem codeC_lines {ps : List OverD} {t s : ByteArray} (h : codeC ps t s = 0) : ovB ps = true ∧ bytesIn 32 126 t = true ∧ bytesIn 32 126 s = true ∧ t.size = s.size ∧ s.size ≤ 60 := by
  obtain ⟨h1, h2, h3⟩ := codeC_ok h
  rw [codeC, if_pos h1] at h
  have e1 : lineC t = true := by
    cases h4 : lineC t with
    | true => rfl
    | false => rw [h4, if_neg Bool.false_ne_true] at h; exact absurd h (by decide)
  rw [if_pos e1] at h
  have e2 : lineC s = true := by
    cases h4 : lineC s with
    | true => rfl
    | false => rw [h4, if_neg Bool.false_ne_true] at h; exact absurd h (by decide)
  simp only [lineC, Bool.and_eq_true] at e1 e2
  exact ⟨h1, e1.2, e2.2, h2, h3⟩
theorem deedL_cells (p : ByteArray) : deedL p p.size = p.data.toList.flatMap (fun c => [deedV c.toNat]) := by
  rw [deedL, List.take_of_length_le (show p.data.toList.length ≤ p.size from Nat.le_refl _), List.map_eq_flatMap]
theorem deed_at {w : World} {base : Nat} {p : ByteArray} {x : Value} (h : w.ownsRow base 101 1 x p.size (deedL p p.size)) :
    ∃ A c, x = .slice A p.size c ∧ ∀ k (hk : k < p.size), ∃ b off, A = some ⟨b, off, none⟩ ∧ w.cell? ⟨b, off + k, none⟩ = some (deedV (p[k]'hk).toNat) := by
  rw [deedL_cells] at h
  obtain ⟨A, c, e, hO⟩ := ORow.of_owns (cells := fun c : UInt8 => [deedV c.toNat]) (ys := p.data.toList) (fun _ => rfl) h
  refine ⟨A, c, e, fun k hk => ?_⟩
  obtain ⟨b, off, y, e2, hb, hy, hc⟩ := hO.srow.at_ (show k < p.data.toList.length from hk)
  have h0 := hc 0 _ rfl
  rw [Nat.mul_one, Nat.add_zero] at h0
  have hy2 : y = p[k]'hk := by
    have := byte_of hk
    rw [this] at hy
    exact (Option.some.inj hy).symm
  exact ⟨b, off, e2, by rw [h0, hy2]⟩
theorem deedV_three {c : UInt8} (h : planC c = true) : ∃ f, deedV c.toNat = .func (.func f) #[] #[] ∧ (f = 104 ∨ f = 58 ∨ f = 105) := by
  simp only [planC, Bool.or_eq_true, decide_eq_true_eq] at h
  unfold deedV
  by_cases h1 : c.toNat = 46
  · exact ⟨_, if_pos h1, .inl rfl⟩
  · rw [if_neg h1]
    by_cases h2 : c.toNat = 43
    · exact ⟨_, if_pos h2, .inr (.inl rfl)⟩
    · rw [if_neg h2]
      by_cases h3 : c.toNat = 35
      · exact ⟨_, if_pos h3, .inr (.inr rfl)⟩
      · omega
set_option maxRecDepth 100000 in
set_option maxHeartbeats 12800000 in
theorem ap12_impl (A : Option Addr) (n c : Nat) (ps : List OverD) (t p l : ByteArray) (w : World) (h : Overs w A n ps) (hn : n ≤ 1048576) (hg : ∀ x ∈ ps, x.good) (ht : t.size ≤ 1048576) (hp : p.size ≤ 1048576) (hl : l.size ≤ 1048576) :
    Calls Try.prog 27 #[.slice A n c, .string t, .string p, .string l] w fun e w' => e = .returned (.tuple #[.string (apR ps t p l).1, .int .i64 (apR ps t p l).2]) ∧ Below w.heap.size w w' := by
  generalize hr : apR ps t p l = r
  replace hr := Lib.hid hr.symm
  have hpm : p.size ≤ maxLen := by unfold maxLen; omega
  obtain ⟨q, hq⟩ : ∃ q, codeC ps t l = q := ⟨_, rfl⟩
  have hrd := Lib.hid (readl12 A n c ps t l hq w h hn hg ht hl)
  by_cases h0 : q = 0
  · subst h0
    have hdd := Lib.hid (fun (v : Bool) (hv : planB p = v) W => deeds12 p hv W hpm)
    cases h1 : planB p with
    | false =>
      have hres : Hid (r = (ByteArray.empty, 7)) := Lib.hid (by rw [hr.out, apR, if_pos hq, h1]; rfl)
      have hd1 := Lib.hid (hdd.out false h1)
      clear hr h1 hdd h hg hq
      go_enter Try.func27, Try.ntmps27
      go_wp2_with fail
      refine (hrd.out).mono ?_
      rintro e w1 ⟨hb1, ⟨h9, _⟩ | ⟨_, r1, r2, rfl, hM1, hM2⟩⟩
      · exact absurd rfl h9
      · go_wp2_with fail
        refine (hd1.out _).mono ?_
        rintro e w2 ⟨x, rfl, hb2, _⟩
        have hbz := (hb1.alloc hb1.size (.cells #[.map (some r1), .map (some r2)] 74)).step hb2
        clear hb2 hM1 hM2
        go_wp2
        go_ret2
        exact ⟨ret12_p hres.out, hbz⟩
    | true =>
      have hd1 := Lib.hid (hdd.out true h1)
      by_cases h2 : p.size = t.size
      · have hres : Hid (r = if apB ps t p l p.size = true then (⟨(apL ps t p l p.size).toArray⟩, 0) else (ByteArray.empty, 3)) := Lib.hid (by rw [hr.out, apR, if_pos hq, h1, if_pos rfl, if_pos h2])
        have g1 : ((p.size : Int) == (t.size : Int)) = true := beq_iff_eq.2 (by omega)
        have g2 : ((p.size : Int) != (t.size : Int)) = false := by rw [bne, g1]; rfl
        have g3 : (p.size == t.size) = true := beq_iff_eq.2 h2
        obtain ⟨hov, hbt, hbl, hz1, hz2⟩ := codeC_lines hq
        have hone := Lib.hid (ovB_oneB hov)
        have hpos := Lib.hid (fun x (hx : x ∈ ps) => letC_pos (oneB_parts (hone.out x hx)).2.2)
        have hplan := Lib.hid (show ∀ k (hk : k < p.size), planC (p[k]'hk) = true from fun k hk => by
          simp only [planB, Bool.and_eq_true] at h1
          exact List.all_eq_true.1 h1.1 _ (List.mem_of_getElem? (byte_of hk)))
        clear hr h1 hdd h hg hq hov
        go_enter Try.func27, Try.ntmps27
        go_wp2_with fail
        refine (hrd.out).mono ?_
        rintro e w1 ⟨hb1, ⟨h9, _⟩ | ⟨_, r1, r2, rfl, hM1, hM2⟩⟩
        · exact absurd rfl h9
        · go_wp2_with fail
          refine (hd1.out _).mono ?_
          rintro e w2 ⟨x, rfl, hb2, hrow⟩
          obtain ⟨A', c', rfl, hcell⟩ := deed_at (hrow trivial)
          have hbw2 := Lib.hid ((hb1.alloc hb1.size (.cells #[.map (some r1), .map (some r2)] 74)).step hb2)
          have hMs := Lib.hid ((hM1.below (B := w1.heap.size) (below_a1 w1 (.cells #[.map (some r1), .map (some r2)] 74)) hM1.lt).below hb2 (by have := hM1.lt; simp; omega))
          have o0 := cell_step (cell_new (w := w1) (t := 74) (cs := #[.map (some r1), .map (some r2)]) (o := 0) rfl rfl) hb2
          have o1 := cell_step (cell_new (w := w1) (t := 74) (cs := #[.map (some r1), .map (some r2)]) (o := 1) rfl rfl) hb2
          replace hcell := Lib.hid hcell
          replace o0 := Lib.hid o0
          replace o1 := Lib.hid o1
          clear hM1 hM2 hb1 hb2 hrow
          go_wp2
          go_loopw [8, 9, 45] (fun _ _ i wr => ∃ k : Nat, k ≤ p.size ∧ i = .int .i64 (k : Int) ∧ apB ps t p l k = true ∧ BuiltIs w2.heap.size w2.heap.size (apL ps t p l k) wr ∧ Below w2.heap.size w2 wr) (fun _ _ i _ => p.size - (intOf i).toNat)
          case atStart => exact ⟨0, by omega, rfl, rfl, Lib.IsBuilderF.of (Lib.fresh_isBuilder 88 5 w2), below_a1 _ _⟩
          case round =>
            rename World => wr
            obtain ⟨k, hk, rfl, hab, hB, hbw⟩ := hrel
            have hwz := hbw.size
            replace hB := Lib.hid hB
            replace hab := Lib.hid hab
            by_cases hlt : k < p.size
            · have ltt : k < t.size := by omega
              have ltl : k < l.size := by omega
              have i0 : (0 : Int) ≤ (k : Int) := by omega
              have i1 : (k : Int) < (p.size : Int) := by omega
              have i2 : (k : Int) < (t.size : Int) := by omega
              have i3 : (k : Int) < (l.size : Int) := by omega
              have hwk : IntKind.i64.wrap ((k : Int) + 1) = ((k + 1 : Nat) : Int) := by rw [IntWalk.i64_in _ (by omega)]; omega
              obtain ⟨b, off, rfl, hc0⟩ := hcell.out k hlt
              have hpl := hplan.out k hlt
              obtain ⟨f, hf, hf3⟩ := deedV_three hpl
              rw [hf] at hc0
              have c0 := cell_step hc0 hbw
              have d0 := cell_step o0.out hbw
              have d1 := cell_step o1.out hbw
              have hMr := Lib.hid (hMs.out.below hbw hMs.out.lt)
              obtain ⟨tu, tv⟩ := bytesIn_at hbt ltt
              obtain ⟨lu, lv⟩ := bytesIn_at hbl ltl
              obtain ⟨v, hv⟩ : ∃ v, apO ps t p l k = v := ⟨_, rfl⟩
              have hdo := doR_ap (ps := ps) (c := p[k]'hlt) (u := t[k]'ltt) (l := l[k]'ltl) (by omega) (by omega) (v := v) (by rw [← hv, apO, bAt_eq hlt, bAt_eq ltt, bAt_eq ltl])
              have hvle : v.toNat ≤ 126 := by
                rw [← hv, apO, bAt_eq hlt, bAt_eq ltt, bAt_eq ltl]
                split
                · exact lv
                · split
                  · exact seenV_le hone.out tv lv
                  · exact tv
              have hdeed := Lib.hid (fun W hW => deed12 r1 r2 ps hpos.out (p[k]'hlt) (t[k]'ltt) (l[k]'ltl) hpl f hf W hW)
              rw [hdo] at hdeed
              have hnb := Lib.hid (apB_next ps t p l k)
              have hnl := Lib.hid (apL_next ps t p l k)
              rw [hv] at hnb hnl
              clear hc0 hpl hf hdo tu tv lu lv
              by_cases hv0 : v.toNat = 0
              · rw [decide_eq_true hv0] at hdeed
                have hres2 : Hid (r = (ByteArray.empty, 3)) := Lib.hid (by
                  have : apB ps t p l p.size = false := apB_no (k := k + 1) (by rw [hnb.out, decide_eq_true hv0]; exact Bool.and_false _) hlt
                  rw [hres.out, this]; rfl)
                replace hv0 := Lib.hid hv0
                rcases hf3 with rfl | rfl | rfl
                · go_wp2
                  refine wp_region_held_drew (S := fun w' => Below wr.heap.size wr w' ∧ w'.cell? ⟨w1.heap.size, 0, none⟩ = some (.map (some r1)) ∧ w'.cell? ⟨w1.heap.size, 1, none⟩ = some (.map (some r2))) (by kernel_rfl) ?_ (fun hHeld => ?_)
                  · exact ⟨(Below.refl _ wr).drew, cell_step d0 ((Below.refl _ wr).drew), cell_step d1 ((Below.refl _ wr).drew)⟩
                  refine wpAnyH_take (i := 0) (v := ?vaU1_0) rfl (by kernel_rfl) (by kernel_rfl) (by kernel_rfl) (fun _ _ _ h => h) (Or.inl ⟨rfl, ?yaU1_0⟩) (by assumption) ?_
                  case yaU1_0 => (intro w hSw; (try dsimp only at hSw); go_simp; first | done | with_reducible rfl)
                  simp only [List.getElem_toArray, List.getElem_cons_succ, List.getElem_cons_zero, Act.put, List.setIfInBounds_toArray, List.set_cons_zero, List.set_cons_succ]
                  refine wpAnyH_take (i := 1) (v := ?vaU1_1) rfl (by kernel_rfl) (by kernel_rfl) (by kernel_rfl) (fun _ _ _ h => h) (Or.inl ⟨rfl, ?yaU1_1⟩) (by assumption) ?_
                  case yaU1_1 => (intro w hSw; (try dsimp only at hSw); go_simp; first | done | with_reducible rfl)
                  simp only [List.getElem_toArray, List.getElem_cons_succ, List.getElem_cons_zero, Act.put, List.setIfInBounds_toArray, List.set_cons_zero, List.set_cons_succ]
                  refine wpAnyH_take (i := 2) (v := ?vaU1_2) rfl (by kernel_rfl) (by kernel_rfl) (by kernel_rfl) (fun _ _ _ h => h) (Or.inl ⟨rfl, ?yaU1_2⟩) (by assumption) ?_
                  case yaU1_2 => (intro w hSw; (try dsimp only at hSw); go_simp; first | done | with_reducible rfl)
                  simp only [List.getElem_toArray, List.getElem_cons_succ, List.getElem_cons_zero, Act.put, List.setIfInBounds_toArray, List.set_cons_zero, List.set_cons_succ]
                  refine wpAnyH_take (i := 3) (v := ?vaU1_3) rfl (by kernel_rfl) (by kernel_rfl) (by kernel_rfl) (fun _ _ _ h => h) (Or.inl ⟨rfl, ?yaU1_3⟩) (by assumption) ?_
                  case yaU1_3 => (intro w hSw; (try dsimp only at hSw); go_simp; first | done | with_reducible rfl)
                  simp only [List.getElem_toArray, List.getElem_cons_succ, List.getElem_cons_zero, Act.put, List.setIfInBounds_toArray, List.set_cons_zero, List.set_cons_succ]
                  refine wpAnyH_take (i := 4) (v := ?vaU1_4) rfl (by kernel_rfl) (by kernel_rfl) (by kernel_rfl) (fun _ _ _ h => h) (Or.inl ⟨rfl, ?yaU1_4⟩) (by assumption) ?_
                  case yaU1_4 => (intro w hSw; (try dsimp only at hSw); go_simp; first | done | with_reducible rfl)
                  simp only [List.getElem_toArray, List.getElem_cons_succ, List.getElem_cons_zero, Act.put, List.setIfInBounds_toArray, List.set_cons_zero, List.set_cons_succ]
                  refine wpAnyH_take (i := 5) (v := ?vaU1_5) rfl (by kernel_rfl) (by kernel_rfl) (by kernel_rfl) (fun _ _ _ h => h) (Or.inl ⟨rfl, ?yaU1_5⟩) (by assumption) ?_
                  case yaU1_5 => (intro w hSw; (try dsimp only at hSw); go_simp; first | done | with_reducible rfl)
                  simp only [List.getElem_toArray, List.getElem_cons_succ, List.getElem_cons_zero, Act.put, List.setIfInBounds_toArray, List.set_cons_zero, List.set_cons_succ]
                  refine wpAnyH_take (i := 6) (v := ?vaU1_6) rfl (by kernel_rfl) (by kernel_rfl) (by kernel_rfl) (fun _ _ _ h => h) (Or.inl ⟨rfl, ?yaU1_6⟩) (by assumption) ?_
                  case yaU1_6 => (intro w hSw; (try dsimp only at hSw); go_simp; first | done | with_reducible rfl)
                  simp only [List.getElem_toArray, List.getElem_cons_succ, List.getElem_cons_zero, Act.put, List.setIfInBounds_toArray, List.set_cons_zero, List.set_cons_succ]
                  refine wpAnyH_take (i := 7) (v := ?vaU1_7) rfl (by kernel_rfl) (by kernel_rfl) (by kernel_rfl) (fun _ _ _ h => h) (Or.inl ⟨rfl, ?yaU1_7⟩) (by assumption) ?_
                  case yaU1_7 => (intro w hSw; (try dsimp only at hSw); go_simp; first | done | with_reducible rfl)
                  simp only [List.getElem_toArray, List.getElem_cons_succ, List.getElem_cons_zero, Act.put, List.setIfInBounds_toArray, List.set_cons_zero, List.set_cons_succ]
                  refine wpAnyH_ready (rs := [8]) (by kernel_rfl) (by simp) ?_
                  refine AllReadyH.cons rfl (fun K hK => ?_) AllReadyH.nil
                  go_simp
                  refine (hdeed.out _ (hMr.out.below (Below.refl _ wr).drew hMr.out.lt)).mono ?_
                  rintro e w5 ⟨rfl, hb5⟩
                  go_wp2_with fail
                  refine hK.out _ _ ?_ (fun hHeld => ?_)
                  · exact ⟨hHeld.1.trans (hb5.mono hHeld.1.size), cell_step hHeld.2.1 hb5, cell_step hHeld.2.2 hb5⟩
                  clear hK K
                  try simp only [List.getElem_toArray, List.getElem_cons_succ, List.getElem_cons_zero, Act.put, List.setIfInBounds_toArray, List.set_cons_zero, List.set_cons_succ]
                  refine wpAnyH_take (i := 9) (v := ?vaU1_9) rfl (by kernel_rfl) (by kernel_rfl) (by kernel_rfl) (fun _ _ _ h => h) (Or.inl ⟨rfl, ?yaU1_9⟩) (by assumption) ?_
                  case yaU1_9 => (intro w hSw; (try dsimp only at hSw); go_simp; first | done | with_reducible rfl)
                  simp only [List.getElem_toArray, List.getElem_cons_succ, List.getElem_cons_zero, Act.put, List.setIfInBounds_toArray, List.set_cons_zero, List.set_cons_succ]
                  refine wpAnyH_take (i := 10) (v := ?vaU1_10) rfl (by kernel_rfl) (by kernel_rfl) (by kernel_rfl) (fun _ _ _ h => h) (Or.inl ⟨rfl, ?yaU1_10⟩) (by assumption) ?_
                  case yaU1_10 => (intro w hSw; (try dsimp only at hSw); go_simp; first | done | with_reducible rfl)
                  simp only [List.getElem_toArray, List.getElem_cons_succ, List.getElem_cons_zero, Act.put, List.setIfInBounds_toArray, List.set_cons_zero, List.set_cons_succ]
                  refine wpAnyH_take (i := 11) (v := ?vaU1_11) rfl (by kernel_rfl) (by kernel_rfl) (by kernel_rfl) (fun _ _ _ h => h) (Or.inl ⟨rfl, ?yaU1_11⟩) (by assumption) ?_
                  case yaU1_11 => (intro w hSw; (try dsimp only at hSw); go_simp; first | done | with_reducible rfl)
                  simp only [List.getElem_toArray, List.getElem_cons_succ, List.getElem_cons_zero, Act.put, List.setIfInBounds_toArray, List.set_cons_zero, List.set_cons_succ]
                  refine wpAnyH_take (i := 12) (v := ?vaU1_12) rfl (by kernel_rfl) (by kernel_rfl) (by kernel_rfl) (fun _ _ _ h => h) (Or.inl ⟨rfl, ?yaU1_12⟩) (by assumption) ?_
                  case yaU1_12 => (intro w hSw; (try dsimp only at hSw); go_simp; first | done | with_reducible rfl)
                  simp only [List.getElem_toArray, List.getElem_cons_succ, List.getElem_cons_zero, Act.put, List.setIfInBounds_toArray, List.set_cons_zero, List.set_cons_succ]
                  refine wpAnyH_take (i := 13) (v := ?vaU1_13) rfl (by kernel_rfl) (by kernel_rfl) (by kernel_rfl) (fun _ _ _ h => h) (Or.inl ⟨rfl, ?yaU1_13⟩) (by assumption) ?_
                  case yaU1_13 => (intro w hSw; (try dsimp only at hSw); go_simp; first | done | with_reducible rfl)
                  simp only [List.getElem_toArray, List.getElem_cons_succ, List.getElem_cons_zero, Act.put, List.setIfInBounds_toArray, List.set_cons_zero, List.set_cons_succ]
                  refine wpAnyH_done (by kernel_rfl) ?_ _
                  have hbz := Lib.hid (hbw2.out.trans ((hbw.step hHeld.1).mono hbw2.out.size))
                  clear hHeld hbw
                  go_wp2
                  go_ret2
                  exact ⟨ret12_p hres2.out, hbz.out⟩
                · go_wp2
                  refine wp_region_held_drew (S := fun w' => Below wr.heap.size wr w' ∧ w'.cell? ⟨w1.heap.size, 0, none⟩ = some (.map (some r1)) ∧ w'.cell? ⟨w1.heap.size, 1, none⟩ = some (.map (some r2))) (by kernel_rfl) ?_ (fun hHeld => ?_)
                  · exact ⟨(Below.refl _ wr).drew, cell_step d0 ((Below.refl _ wr).drew), cell_step d1 ((Below.refl _ wr).drew)⟩
                  refine wpAnyH_take (i := 0) (v := ?vbU3_0) rfl (by kernel_rfl) (by kernel_rfl) (by kernel_rfl) (fun _ _ _ h => h) (Or.inl ⟨rfl, ?ybU3_0⟩) (by assumption) ?_
                  case ybU3_0 => (intro w hSw; (try dsimp only at hSw); go_simp; first | done | with_reducible rfl)
                  simp only [List.getElem_toArray, List.getElem_cons_succ, List.getElem_cons_zero, Act.put, List.setIfInBounds_toArray, List.set_cons_zero, List.set_cons_succ]
                  refine wpAnyH_take (i := 1) (v := ?vbU3_1) rfl (by kernel_rfl) (by kernel_rfl) (by kernel_rfl) (fun _ _ _ h => h) (Or.inl ⟨rfl, ?ybU3_1⟩) (by assumption) ?_
                  case ybU3_1 => (intro w hSw; (try dsimp only at hSw); go_simp; first | done | with_reducible rfl)
                  simp only [List.getElem_toArray, List.getElem_cons_succ, List.getElem_cons_zero, Act.put, List.setIfInBounds_toArray, List.set_cons_zero, List.set_cons_succ]
                  refine wpAnyH_take (i := 2) (v := ?vbU3_2) rfl (by kernel_rfl) (by kernel_rfl) (by kernel_rfl) (fun _ _ _ h => h) (Or.inl ⟨rfl, ?ybU3_2⟩) (by assumption) ?_
                  case ybU3_2 => (intro w hSw; (try dsimp only at hSw); go_simp; first | done | with_reducible rfl)
                  simp only [List.getElem_toArray, List.getElem_cons_succ, List.getElem_cons_zero, Act.put, List.setIfInBounds_toArray, List.set_cons_zero, List.set_cons_succ]
                  refine wpAnyH_take (i := 3) (v := ?vbU3_3) rfl (by kernel_rfl) (by kernel_rfl) (by kernel_rfl) (fun _ _ _ h => h) (Or.inl ⟨rfl, ?ybU3_3⟩) (by assumption) ?_
                  case ybU3_3 => (intro w hSw; (try dsimp only at hSw); go_simp; first | done | with_reducible rfl)
                  simp only [List.getElem_toArray, List.getElem_cons_succ, List.getElem_cons_zero, Act.put, List.setIfInBounds_toArray, List.set_cons_zero, List.set_cons_succ]
                  refine wpAnyH_take (i := 4) (v := ?vbU3_4) rfl (by kernel_rfl) (by kernel_rfl) (by kernel_rfl) (fun _ _ _ h => h) (Or.inl ⟨rfl, ?ybU3_4⟩) (by assumption) ?_
                  case ybU3_4 => (intro w hSw; (try dsimp only at hSw); go_simp; first | done | with_reducible rfl)
                  simp only [List.getElem_toArray, List.getElem_cons_succ, List.getElem_cons_zero, Act.put, List.setIfInBounds_toArray, List.set_cons_zero, List.set_cons_succ]
                  refine wpAnyH_take (i := 5) (v := ?vbU3_5) rfl (by kernel_rfl) (by kernel_rfl) (by kernel_rfl) (fun _ _ _ h => h) (Or.inl ⟨rfl, ?ybU3_5⟩) (by assumption) ?_
                  case ybU3_5 => (intro w hSw; (try dsimp only at hSw); go_simp; first | done | with_reducible rfl)
                  simp only [List.getElem_toArray, List.getElem_cons_succ, List.getElem_cons_zero, Act.put, List.setIfInBounds_toArray, List.set_cons_zero, List.set_cons_succ]
                  refine wpAnyH_take (i := 6) (v := ?vbU3_6) rfl (by kernel_rfl) (by kernel_rfl) (by kernel_rfl) (fun _ _ _ h => h) (Or.inl ⟨rfl, ?ybU3_6⟩) (by assumption) ?_
                  case ybU3_6 => (intro w hSw; (try dsimp only at hSw); go_simp; first | done | with_reducible rfl)
                  simp only [List.getElem_toArray, List.getElem_cons_succ, List.getElem_cons_zero, Act.put, List.setIfInBounds_toArray, List.set_cons_zero, List.set_cons_succ]
                  refine wpAnyH_take (i := 7) (v := ?vbU3_7) rfl (by kernel_rfl) (by kernel_rfl) (by kernel_rfl) (fun _ _ _ h => h) (Or.inl ⟨rfl, ?ybU3_7⟩) (by assumption) ?_
                  case ybU3_7 => (intro w hSw; (try dsimp only at hSw); go_simp; first | done | with_reducible rfl)
                  simp only [List.getElem_toArray, List.getElem_cons_succ, List.getElem_cons_zero, Act.put, List.setIfInBounds_toArray, List.set_cons_zero, List.set_cons_succ]
                  refine wpAnyH_ready (rs := [8]) (by kernel_rfl) (by simp) ?_
                  refine AllReadyH.cons rfl (fun K hK => ?_) AllReadyH.nil
                  go_simp
                  refine (hdeed.out _ (hMr.out.below (Below.refl _ wr).drew hMr.out.lt)).mono ?_
                  rintro e w5 ⟨rfl, hb5⟩
                  go_wp2_with fail
                  refine hK.out _ _ ?_ (fun hHeld => ?_)
                  · exact ⟨hHeld.1.trans (hb5.mono hHeld.1.size), cell_step hHeld.2.1 hb5, cell_step hHeld.2.2 hb5⟩
                  clear hK K
                  try simp only [List.getElem_toArray, List.getElem_cons_succ, List.getElem_cons_zero, Act.put, List.setIfInBounds_toArray, List.set_cons_zero, List.set_cons_succ]
                  refine wpAnyH_take (i := 9) (v := ?vbU3_9) rfl (by kernel_rfl) (by kernel_rfl) (by kernel_rfl) (fun _ _ _ h => h) (Or.inl ⟨rfl, ?ybU3_9⟩) (by assumption) ?_
                  case ybU3_9 => (intro w hSw; (try dsimp only at hSw); go_simp; first | done | with_reducible rfl)
                  simp only [List.getElem_toArray, List.getElem_cons_succ, List.getElem_cons_zero, Act.put, List.setIfInBounds_toArray, List.set_cons_zero, List.set_cons_succ]
                  refine wpAnyH_take (i := 10) (v := ?vbU3_10) rfl (by kernel_rfl) (by kernel_rfl) (by kernel_rfl) (fun _ _ _ h => h) (Or.inl ⟨rfl, ?ybU3_10⟩) (by assumption) ?_
                  case ybU3_10 => (intro w hSw; (try dsimp only at hSw); go_simp; first | done | with_reducible rfl)
                  simp only [List.getElem_toArray, List.getElem_cons_succ, List.getElem_cons_zero, Act.put, List.setIfInBounds_toArray, List.set_cons_zero, List.set_cons_succ]
                  refine wpAnyH_take (i := 11) (v := ?vbU3_11) rfl (by kernel_rfl) (by kernel_rfl) (by kernel_rfl) (fun _ _ _ h => h) (Or.inl ⟨rfl, ?ybU3_11⟩) (by assumption) ?_
                  case ybU3_11 => (intro w hSw; (try dsimp only at hSw); go_simp; first | done | with_reducible rfl)
                  simp only [List.getElem_toArray, List.getElem_cons_succ, List.getElem_cons_zero, Act.put, List.setIfInBounds_toArray, List.set_cons_zero, List.set_cons_succ]
                  refine wpAnyH_take (i := 12) (v := ?vbU3_12) rfl (by kernel_rfl) (by kernel_rfl) (by kernel_rfl) (fun _ _ _ h => h) (Or.inl ⟨rfl, ?ybU3_12⟩) (by assumption) ?_
                  case ybU3_12 => (intro w hSw; (try dsimp only at hSw); go_simp; first | done | with_reducible rfl)
                  simp only [List.getElem_toArray, List.getElem_cons_succ, List.getElem_cons_zero, Act.put, List.setIfInBounds_toArray, List.set_cons_zero, List.set_cons_succ]
                  refine wpAnyH_take (i := 13) (v := ?vbU3_13) rfl (by kernel_rfl) (by kernel_rfl) (by kernel_rfl) (fun _ _ _ h => h) (Or.inl ⟨rfl, ?ybU3_13⟩) (by assumption) ?_
                  case ybU3_13 => (intro w hSw; (try dsimp only at hSw); go_simp; first | done | with_reducible rfl)
                  simp only [List.getElem_toArray, List.getElem_cons_succ, List.getElem_cons_zero, Act.put, List.setIfInBounds_toArray, List.set_cons_zero, List.set_cons_succ]
                  refine wpAnyH_done (by kernel_rfl) ?_ _
                  have hbz := Lib.hid (hbw2.out.trans ((hbw.step hHeld.1).mono hbw2.out.size))
                  clear hHeld hbw
                  go_wp2
                  go_ret2
                  exact ⟨ret12_p hres2.out, hbz.out⟩
                · go_wp2
                  refine wp_region_held_drew (S := fun w' => Below wr.heap.size wr w' ∧ w'.cell? ⟨w1.heap.size, 0, none⟩ = some (.map (some r1)) ∧ w'.cell? ⟨w1.heap.size, 1, none⟩ = some (.map (some r2))) (by kernel_rfl) ?_ (fun hHeld => ?_)
                  · exact ⟨(Below.refl _ wr).drew, cell_step d0 ((Below.refl _ wr).drew), cell_step d1 ((Below.refl _ wr).drew)⟩
                  refine wpAnyH_take (i := 0) (v := ?vcU5_0) rfl (by kernel_rfl) (by kernel_rfl) (by kernel_rfl) (fun _ _ _ h => h) (Or.inl ⟨rfl, ?ycU5_0⟩) (by assumption) ?_
                  case ycU5_0 => (intro w hSw; (try dsimp only at hSw); go_simp; first | done | with_reducible rfl)
                  simp only [List.getElem_toArray, List.getElem_cons_succ, List.getElem_cons_zero, Act.put, List.setIfInBounds_toArray, List.set_cons_zero, List.set_cons_succ]
                  refine wpAnyH_take (i := 1) (v := ?vcU5_1) rfl (by kernel_rfl) (by kernel_rfl) (by kernel_rfl) (fun _ _ _ h => h) (Or.inl ⟨rfl, ?ycU5_1⟩) (by assumption) ?_
                  case ycU5_1 => (intro w hSw; (try dsimp only at hSw); go_simp; first | done | with_reducible rfl)
                  simp only [List.getElem_toArray, List.getElem_cons_succ, List.getElem_cons_zero, Act.put, List.setIfInBounds_toArray, List.set_cons_zero, List.set_cons_succ]
                  refine wpAnyH_take (i := 2) (v := ?vcU5_2) rfl (by kernel_rfl) (by kernel_rfl) (by kernel_rfl) (fun _ _ _ h => h) (Or.inl ⟨rfl, ?ycU5_2⟩) (by assumption) ?_
                  case ycU5_2 => (intro w hSw; (try dsimp only at hSw); go_simp; first | done | with_reducible rfl)
                  simp only [List.getElem_toArray, List.getElem_cons_succ, List.getElem_cons_zero, Act.put, List.setIfInBounds_toArray, List.set_cons_zero, List.set_cons_succ]
                  refine wpAnyH_take (i := 3) (v := ?vcU5_3) rfl (by kernel_rfl) (by kernel_rfl) (by kernel_rfl) (fun _ _ _ h => h) (Or.inl ⟨rfl, ?ycU5_3⟩) (by assumption) ?_
                  case ycU5_3 => (intro w hSw; (try dsimp only at hSw); go_simp; first | done | with_reducible rfl)
                  simp only [List.getElem_toArray, List.getElem_cons_succ, List.getElem_cons_zero, Act.put, List.setIfInBounds_toArray, List.set_cons_zero, List.set_cons_succ]
                  refine wpAnyH_take (i := 4) (v := ?vcU5_4) rfl (by kernel_rfl) (by kernel_rfl) (by kernel_rfl) (fun _ _ _ h => h) (Or.inl ⟨rfl, ?ycU5_4⟩) (by assumption) ?_
                  case ycU5_4 => (intro w hSw; (try dsimp only at hSw); go_simp; first | done | with_reducible rfl)
                  simp only [List.getElem_toArray, List.getElem_cons_succ, List.getElem_cons_zero, Act.put, List.setIfInBounds_toArray, List.set_cons_zero, List.set_cons_succ]
                  refine wpAnyH_take (i := 5) (v := ?vcU5_5) rfl (by kernel_rfl) (by kernel_rfl) (by kernel_rfl) (fun _ _ _ h => h) (Or.inl ⟨rfl, ?ycU5_5⟩) (by assumption) ?_
                  case ycU5_5 => (intro w hSw; (try dsimp only at hSw); go_simp; first | done | with_reducible rfl)
                  simp only [List.getElem_toArray, List.getElem_cons_succ, List.getElem_cons_zero, Act.put, List.setIfInBounds_toArray, List.set_cons_zero, List.set_cons_succ]
                  refine wpAnyH_take (i := 6) (v := ?vcU5_6) rfl (by kernel_rfl) (by kernel_rfl) (by kernel_rfl) (fun _ _ _ h => h) (Or.inl ⟨rfl, ?ycU5_6⟩) (by assumption) ?_
                  case ycU5_6 => (intro w hSw; (try dsimp only at hSw); go_simp; first | done | with_reducible rfl)
                  simp only [List.getElem_toArray, List.getElem_cons_succ, List.getElem_cons_zero, Act.put, List.setIfInBounds_toArray, List.set_cons_zero, List.set_cons_succ]
                  refine wpAnyH_take (i := 7) (v := ?vcU5_7) rfl (by kernel_rfl) (by kernel_rfl) (by kernel_rfl) (fun _ _ _ h => h) (Or.inl ⟨rfl, ?ycU5_7⟩) (by assumption) ?_
                  case ycU5_7 => (intro w hSw; (try dsimp only at hSw); go_simp; first | done | with_reducible rfl)
                  simp only [List.getElem_toArray, List.getElem_cons_succ, List.getElem_cons_zero, Act.put, List.setIfInBounds_toArray, List.set_cons_zero, List.set_cons_succ]
                  refine wpAnyH_ready (rs := [8]) (by kernel_rfl) (by simp) ?_
                  refine AllReadyH.cons rfl (fun K hK => ?_) AllReadyH.nil
                  go_simp
                  refine (hdeed.out _ (hMr.out.below (Below.refl _ wr).drew hMr.out.lt)).mono ?_
                  rintro e w5 ⟨rfl, hb5⟩
                  go_wp2_with fail
                  refine hK.out _ _ ?_ (fun hHeld => ?_)
                  · exact ⟨hHeld.1.trans (hb5.mono hHeld.1.size), cell_step hHeld.2.1 hb5, cell_step hHeld.2.2 hb5⟩
                  clear hK K
                  try simp only [List.getElem_toArray, List.getElem_cons_succ, List.getElem_cons_zero, Act.put, List.setIfInBounds_toArray, List.set_cons_zero, List.set_cons_succ]
                  refine wpAnyH_take (i := 9) (v := ?vcU5_9) rfl (by kernel_rfl) (by kernel_rfl) (by kernel_rfl) (fun _ _ _ h => h) (Or.inl ⟨rfl, ?ycU5_9⟩) (by assumption) ?_
                  case ycU5_9 => (intro w hSw; (try dsimp only at hSw); go_simp; first | done | with_reducible rfl)
                  simp only [List.getElem_toArray, List.getElem_cons_succ, List.getElem_cons_zero, Act.put, List.setIfInBounds_toArray, List.set_cons_zero, List.set_cons_succ]
                  refine wpAnyH_take (i := 10) (v := ?vcU5_10) rfl (by kernel_rfl) (by kernel_rfl) (by kernel_rfl) (fun _ _ _ h => h) (Or.inl ⟨rfl, ?ycU5_10⟩) (by assumption) ?_
                  case ycU5_10 => (intro w hSw; (try dsimp only at hSw); go_simp; first | done | with_reducible rfl)
                  simp only [List.getElem_toArray, List.getElem_cons_succ, List.getElem_cons_zero, Act.put, List.setIfInBounds_toArray, List.set_cons_zero, List.set_cons_succ]
                  refine wpAnyH_take (i := 11) (v := ?vcU5_11) rfl (by kernel_rfl) (by kernel_rfl) (by kernel_rfl) (fun _ _ _ h => h) (Or.inl ⟨rfl, ?ycU5_11⟩) (by assumption) ?_
                  case ycU5_11 => (intro w hSw; (try dsimp only at hSw); go_simp; first | done | with_reducible rfl)
                  simp only [List.getElem_toArray, List.getElem_cons_succ, List.getElem_cons_zero, Act.put, List.setIfInBounds_toArray, List.set_cons_zero, List.set_cons_succ]
                  refine wpAnyH_take (i := 12) (v := ?vcU5_12) rfl (by kernel_rfl) (by kernel_rfl) (by kernel_rfl) (fun _ _ _ h => h) (Or.inl ⟨rfl, ?ycU5_12⟩) (by assumption) ?_
                  case ycU5_12 => (intro w hSw; (try dsimp only at hSw); go_simp; first | done | with_reducible rfl)
                  simp only [List.getElem_toArray, List.getElem_cons_succ, List.getElem_cons_zero, Act.put, List.setIfInBounds_toArray, List.set_cons_zero, List.set_cons_succ]
                  refine wpAnyH_take (i := 13) (v := ?vcU5_13) rfl (by kernel_rfl) (by kernel_rfl) (by kernel_rfl) (fun _ _ _ h => h) (Or.inl ⟨rfl, ?ycU5_13⟩) (by assumption) ?_
                  case ycU5_13 => (intro w hSw; (try dsimp only at hSw); go_simp; first | done | with_reducible rfl)
                  simp only [List.getElem_toArray, List.getElem_cons_succ, List.getElem_cons_zero, Act.put, List.setIfInBounds_toArray, List.set_cons_zero, List.set_cons_succ]
                  refine wpAnyH_done (by kernel_rfl) ?_ _
                  have hbz := Lib.hid (hbw2.out.trans ((hbw.step hHeld.1).mono hbw2.out.size))
                  clear hHeld hbw
                  go_wp2
                  go_ret2
                  exact ⟨ret12_p hres2.out, hbz.out⟩
              · rw [decide_eq_false hv0] at hdeed
                replace hv0 := Lib.hid hv0
                have hab2 : Hid (apB ps t p l (k + 1) = true) := Lib.hid (by rw [hnb.out, hab.out, decide_eq_false hv0.out]; rfl)
                rcases hf3 with rfl | rfl | rfl
                · go_wp2
                  refine wp_region_held_drew (S := fun w' => Below wr.heap.size wr w' ∧ w'.cell? ⟨w1.heap.size, 0, none⟩ = some (.map (some r1)) ∧ w'.cell? ⟨w1.heap.size, 1, none⟩ = some (.map (some r2))) (by kernel_rfl) ?_ (fun hHeld => ?_)
                  · exact ⟨(Below.refl _ wr).drew, cell_step d0 ((Below.refl _ wr).drew), cell_step d1 ((Below.refl _ wr).drew)⟩
                  refine wpAnyH_take (i := 0) (v := ?vdU2_0) rfl (by kernel_rfl) (by kernel_rfl) (by kernel_rfl) (fun _ _ _ h => h) (Or.inl ⟨rfl, ?ydU2_0⟩) (by assumption) ?_
                  case ydU2_0 => (intro w hSw; (try dsimp only at hSw); go_simp; first | done | with_reducible rfl)
                  simp only [List.getElem_toArray, List.getElem_cons_succ, List.getElem_cons_zero, Act.put, List.setIfInBounds_toArray, List.set_cons_zero, List.set_cons_succ]
                  refine wpAnyH_take (i := 1) (v := ?vdU2_1) rfl (by kernel_rfl) (by kernel_rfl) (by kernel_rfl) (fun _ _ _ h => h) (Or.inl ⟨rfl, ?ydU2_1⟩) (by assumption) ?_
                  case ydU2_1 => (intro w hSw; (try dsimp only at hSw); go_simp; first | done | with_reducible rfl)
                  simp only [List.getElem_toArray, List.getElem_cons_succ, List.getElem_cons_zero, Act.put, List.setIfInBounds_toArray, List.set_cons_zero, List.set_cons_succ]
                  refine wpAnyH_take (i := 2) (v := ?vdU2_2) rfl (by kernel_rfl) (by kernel_rfl) (by kernel_rfl) (fun _ _ _ h => h) (Or.inl ⟨rfl, ?ydU2_2⟩) (by assumption) ?_
                  case ydU2_2 => (intro w hSw; (try dsimp only at hSw); go_simp; first | done | with_reducible rfl)
                  simp only [List.getElem_toArray, List.getElem_cons_succ, List.getElem_cons_zero, Act.put, List.setIfInBounds_toArray, List.set_cons_zero, List.set_cons_succ]
                  refine wpAnyH_take (i := 3) (v := ?vdU2_3) rfl (by kernel_rfl) (by kernel_rfl) (by kernel_rfl) (fun _ _ _ h => h) (Or.inl ⟨rfl, ?ydU2_3⟩) (by assumption) ?_
                  case ydU2_3 => (intro w hSw; (try dsimp only at hSw); go_simp; first | done | with_reducible rfl)
                  simp only [List.getElem_toArray, List.getElem_cons_succ, List.getElem_cons_zero, Act.put, List.setIfInBounds_toArray, List.set_cons_zero, List.set_cons_succ]
                  refine wpAnyH_take (i := 4) (v := ?vdU2_4) rfl (by kernel_rfl) (by kernel_rfl) (by kernel_rfl) (fun _ _ _ h => h) (Or.inl ⟨rfl, ?ydU2_4⟩) (by assumption) ?_
                  case ydU2_4 => (intro w hSw; (try dsimp only at hSw); go_simp; first | done | with_reducible rfl)
                  simp only [List.getElem_toArray, List.getElem_cons_succ, List.getElem_cons_zero, Act.put, List.setIfInBounds_toArray, List.set_cons_zero, List.set_cons_succ]
                  refine wpAnyH_take (i := 5) (v := ?vdU2_5) rfl (by kernel_rfl) (by kernel_rfl) (by kernel_rfl) (fun _ _ _ h => h) (Or.inl ⟨rfl, ?ydU2_5⟩) (by assumption) ?_
                  case ydU2_5 => (intro w hSw; (try dsimp only at hSw); go_simp; first | done | with_reducible rfl)
                  simp only [List.getElem_toArray, List.getElem_cons_succ, List.getElem_cons_zero, Act.put, List.setIfInBounds_toArray, List.set_cons_zero, List.set_cons_succ]
                  refine wpAnyH_take (i := 6) (v := ?vdU2_6) rfl (by kernel_rfl) (by kernel_rfl) (by kernel_rfl) (fun _ _ _ h => h) (Or.inl ⟨rfl, ?ydU2_6⟩) (by assumption) ?_
                  case ydU2_6 => (intro w hSw; (try dsimp only at hSw); go_simp; first | done | with_reducible rfl)
                  simp only [List.getElem_toArray, List.getElem_cons_succ, List.getElem_cons_zero, Act.put, List.setIfInBounds_toArray, List.set_cons_zero, List.set_cons_succ]
                  refine wpAnyH_take (i := 7) (v := ?vdU2_7) rfl (by kernel_rfl) (by kernel_rfl) (by kernel_rfl) (fun _ _ _ h => h) (Or.inl ⟨rfl, ?ydU2_7⟩) (by assumption) ?_
                  case ydU2_7 => (intro w hSw; (try dsimp only at hSw); go_simp; first | done | with_reducible rfl)
                  simp only [List.getElem_toArray, List.getElem_cons_succ, List.getElem_cons_zero, Act.put, List.setIfInBounds_toArray, List.set_cons_zero, List.set_cons_succ]
                  refine wpAnyH_ready (rs := [8]) (by kernel_rfl) (by simp) ?_
                  refine AllReadyH.cons rfl (fun K hK => ?_) AllReadyH.nil
                  go_simp
                  refine (hdeed.out _ (hMr.out.below (Below.refl _ wr).drew hMr.out.lt)).mono ?_
                  rintro e w5 ⟨rfl, hb5⟩
                  go_wp2_with fail
                  refine hK.out _ _ ?_ (fun hHeld => ?_)
                  · exact ⟨hHeld.1.trans (hb5.mono hHeld.1.size), cell_step hHeld.2.1 hb5, cell_step hHeld.2.2 hb5⟩
                  clear hK K
                  try simp only [List.getElem_toArray, List.getElem_cons_succ, List.getElem_cons_zero, Act.put, List.setIfInBounds_toArray, List.set_cons_zero, List.set_cons_succ]
                  refine wpAnyH_take (i := 9) (v := ?vdU2_9) rfl (by kernel_rfl) (by kernel_rfl) (by kernel_rfl) (fun _ _ _ h => h) (Or.inl ⟨rfl, ?ydU2_9⟩) (by assumption) ?_
                  case ydU2_9 => (intro w hSw; (try dsimp only at hSw); go_simp; first | done | with_reducible rfl)
                  simp only [List.getElem_toArray, List.getElem_cons_succ, List.getElem_cons_zero, Act.put, List.setIfInBounds_toArray, List.set_cons_zero, List.set_cons_succ]
                  refine wpAnyH_take (i := 10) (v := ?vdU2_10) rfl (by kernel_rfl) (by kernel_rfl) (by kernel_rfl) (fun _ _ _ h => h) (Or.inl ⟨rfl, ?ydU2_10⟩) (by assumption) ?_
                  case ydU2_10 => (intro w hSw; (try dsimp only at hSw); go_simp; first | done | with_reducible rfl)
                  simp only [List.getElem_toArray, List.getElem_cons_succ, List.getElem_cons_zero, Act.put, List.setIfInBounds_toArray, List.set_cons_zero, List.set_cons_succ]
                  refine wpAnyH_take (i := 11) (v := ?vdU2_11) rfl (by kernel_rfl) (by kernel_rfl) (by kernel_rfl) (fun _ _ _ h => h) (Or.inl ⟨rfl, ?ydU2_11⟩) (by assumption) ?_
                  case ydU2_11 => (intro w hSw; (try dsimp only at hSw); go_simp; first | done | with_reducible rfl)
                  simp only [List.getElem_toArray, List.getElem_cons_succ, List.getElem_cons_zero, Act.put, List.setIfInBounds_toArray, List.set_cons_zero, List.set_cons_succ]
                  refine wpAnyH_take (i := 12) (v := ?vdU2_12) rfl (by kernel_rfl) (by kernel_rfl) (by kernel_rfl) (fun _ _ _ h => h) (Or.inl ⟨rfl, ?ydU2_12⟩) (by assumption) ?_
                  case ydU2_12 => (intro w hSw; (try dsimp only at hSw); go_simp; first | done | with_reducible rfl)
                  simp only [List.getElem_toArray, List.getElem_cons_succ, List.getElem_cons_zero, Act.put, List.setIfInBounds_toArray, List.set_cons_zero, List.set_cons_succ]
                  refine wpAnyH_take (i := 13) (v := ?vdU2_13) rfl (by kernel_rfl) (by kernel_rfl) (by kernel_rfl) (fun _ _ _ h => h) (Or.inl ⟨rfl, ?ydU2_13⟩) (by assumption) ?_
                  case ydU2_13 => (intro w hSw; (try dsimp only at hSw); go_simp; first | done | with_reducible rfl)
                  simp only [List.getElem_toArray, List.getElem_cons_succ, List.getElem_cons_zero, Act.put, List.setIfInBounds_toArray, List.set_cons_zero, List.set_cons_succ]
                  refine wpAnyH_done (by kernel_rfl) ?_ _
                  have hB5 := Lib.hid (built8_below hB.out hHeld.1)
                  have hbw5 := Lib.hid (hbw.step hHeld.1)
                  have hwz5 := hbw5.out.size
                  have hlen : (apL ps t p l k).length = k := apL_len ps t p l k
                  have hwr := Lib.hid (write_byte8 w2.heap.size w2.heap.size v.toNat (apL ps t p l k) w5 hB5.out (by omega) (by rw [hlen]; omega) hwz5)
                  rw [UInt8.ofNat_toNat] at hwr
                  clear hHeld hbw c0 d0 d1 hlen
                  go_wp2_with fail
                  refine (hwr.out).mono ?_
                  rintro e w6 ⟨rfl, hB6, hb6⟩
                  have hfin := Lib.hid (show BuiltIs w2.heap.size w2.heap.size (apL ps t p l (k + 1)) w6 ∧ Below w2.heap.size w2 w6 from ⟨by rw [hnl.out]; exact hB6, hbw5.out.trans hb6⟩)
                  clear hB6 hb6 hbw5 hB5
                  go_wp2
                  go_roundw
                  case rel => exact ⟨k + 1, by omega, by go_num, hab2.out, hfin.out⟩
                  case measure => simp [intOf]; omega
                · go_wp2
                  refine wp_region_held_drew (S := fun w' => Below wr.heap.size wr w' ∧ w'.cell? ⟨w1.heap.size, 0, none⟩ = some (.map (some r1)) ∧ w'.cell? ⟨w1.heap.size, 1, none⟩ = some (.map (some r2))) (by kernel_rfl) ?_ (fun hHeld => ?_)
                  · exact ⟨(Below.refl _ wr).drew, cell_step d0 ((Below.refl _ wr).drew), cell_step d1 ((Below.refl _ wr).drew)⟩
                  refine wpAnyH_take (i := 0) (v := ?veU4_0) rfl (by kernel_rfl) (by kernel_rfl) (by kernel_rfl) (fun _ _ _ h => h) (Or.inl ⟨rfl, ?yeU4_0⟩) (by assumption) ?_
                  case yeU4_0 => (intro w hSw; (try dsimp only at hSw); go_simp; first | done | with_reducible rfl)
                  simp only [List.getElem_toArray, List.getElem_cons_succ, List.getElem_cons_zero, Act.put, List.setIfInBounds_toArray, List.set_cons_zero, List.set_cons_succ]
                  refine wpAnyH_take (i := 1) (v := ?veU4_1) rfl (by kernel_rfl) (by kernel_rfl) (by kernel_rfl) (fun _ _ _ h => h) (Or.inl ⟨rfl, ?yeU4_1⟩) (by assumption) ?_
                  case yeU4_1 => (intro w hSw; (try dsimp only at hSw); go_simp; first | done | with_reducible rfl)
                  simp only [List.getElem_toArray, List.getElem_cons_succ, List.getElem_cons_zero, Act.put, List.setIfInBounds_toArray, List.set_cons_zero, List.set_cons_succ]
                  refine wpAnyH_take (i := 2) (v := ?veU4_2) rfl (by kernel_rfl) (by kernel_rfl) (by kernel_rfl) (fun _ _ _ h => h) (Or.inl ⟨rfl, ?yeU4_2⟩) (by assumption) ?_
                  case yeU4_2 => (intro w hSw; (try dsimp only at hSw); go_simp; first | done | with_reducible rfl)
                  simp only [List.getElem_toArray, List.getElem_cons_succ, List.getElem_cons_zero, Act.put, List.setIfInBounds_toArray, List.set_cons_zero, List.set_cons_succ]
                  refine wpAnyH_take (i := 3) (v := ?veU4_3) rfl (by kernel_rfl) (by kernel_rfl) (by kernel_rfl) (fun _ _ _ h => h) (Or.inl ⟨rfl, ?yeU4_3⟩) (by assumption) ?_
                  case yeU4_3 => (intro w hSw; (try dsimp only at hSw); go_simp; first | done | with_reducible rfl)
                  simp only [List.getElem_toArray, List.getElem_cons_succ, List.getElem_cons_zero, Act.put, List.setIfInBounds_toArray, List.set_cons_zero, List.set_cons_succ]
                  refine wpAnyH_take (i := 4) (v := ?veU4_4) rfl (by kernel_rfl) (by kernel_rfl) (by kernel_rfl) (fun _ _ _ h => h) (Or.inl ⟨rfl, ?yeU4_4⟩) (by assumption) ?_
                  case yeU4_4 => (intro w hSw; (try dsimp only at hSw); go_simp; first | done | with_reducible rfl)
                  simp only [List.getElem_toArray, List.getElem_cons_succ, List.getElem_cons_zero, Act.put, List.setIfInBounds_toArray, List.set_cons_zero, List.set_cons_succ]
                  refine wpAnyH_take (i := 5) (v := ?veU4_5) rfl (by kernel_rfl) (by kernel_rfl) (by kernel_rfl) (fun _ _ _ h => h) (Or.inl ⟨rfl, ?yeU4_5⟩) (by assumption) ?_
                  case yeU4_5 => (intro w hSw; (try dsimp only at hSw); go_simp; first | done | with_reducible rfl)
                  simp only [List.getElem_toArray, List.getElem_cons_succ, List.getElem_cons_zero, Act.put, List.setIfInBounds_toArray, List.set_cons_zero, List.set_cons_succ]
                  refine wpAnyH_take (i := 6) (v := ?veU4_6) rfl (by kernel_rfl) (by kernel_rfl) (by kernel_rfl) (fun _ _ _ h => h) (Or.inl ⟨rfl, ?yeU4_6⟩) (by assumption) ?_
                  case yeU4_6 => (intro w hSw; (try dsimp only at hSw); go_simp; first | done | with_reducible rfl)
                  simp only [List.getElem_toArray, List.getElem_cons_succ, List.getElem_cons_zero, Act.put, List.setIfInBounds_toArray, List.set_cons_zero, List.set_cons_succ]
                  refine wpAnyH_take (i := 7) (v := ?veU4_7) rfl (by kernel_rfl) (by kernel_rfl) (by kernel_rfl) (fun _ _ _ h => h) (Or.inl ⟨rfl, ?yeU4_7⟩) (by assumption) ?_
                  case yeU4_7 => (intro w hSw; (try dsimp only at hSw); go_simp; first | done | with_reducible rfl)
                  simp only [List.getElem_toArray, List.getElem_cons_succ, List.getElem_cons_zero, Act.put, List.setIfInBounds_toArray, List.set_cons_zero, List.set_cons_succ]
                  refine wpAnyH_ready (rs := [8]) (by kernel_rfl) (by simp) ?_
                  refine AllReadyH.cons rfl (fun K hK => ?_) AllReadyH.nil
                  go_simp
                  refine (hdeed.out _ (hMr.out.below (Below.refl _ wr).drew hMr.out.lt)).mono ?_
                  rintro e w5 ⟨rfl, hb5⟩
                  go_wp2_with fail
                  refine hK.out _ _ ?_ (fun hHeld => ?_)
                  · exact ⟨hHeld.1.trans (hb5.mono hHeld.1.size), cell_step hHeld.2.1 hb5, cell_step hHeld.2.2 hb5⟩
                  clear hK K
                  try simp only [List.getElem_toArray, List.getElem_cons_succ, List.getElem_cons_zero, Act.put, List.setIfInBounds_toArray, List.set_cons_zero, List.set_cons_succ]
                  refine wpAnyH_take (i := 9) (v := ?veU4_9) rfl (by kernel_rfl) (by kernel_rfl) (by kernel_rfl) (fun _ _ _ h => h) (Or.inl ⟨rfl, ?yeU4_9⟩) (by assumption) ?_
                  case yeU4_9 => (intro w hSw; (try dsimp only at hSw); go_simp; first | done | with_reducible rfl)
                  simp only [List.getElem_toArray, List.getElem_cons_succ, List.getElem_cons_zero, Act.put, List.setIfInBounds_toArray, List.set_cons_zero, List.set_cons_succ]
                  refine wpAnyH_take (i := 10) (v := ?veU4_10) rfl (by kernel_rfl) (by kernel_rfl) (by kernel_rfl) (fun _ _ _ h => h) (Or.inl ⟨rfl, ?yeU4_10⟩) (by assumption) ?_
                  case yeU4_10 => (intro w hSw; (try dsimp only at hSw); go_simp; first | done | with_reducible rfl)
                  simp only [List.getElem_toArray, List.getElem_cons_succ, List.getElem_cons_zero, Act.put, List.setIfInBounds_toArray, List.set_cons_zero, List.set_cons_succ]
                  refine wpAnyH_take (i := 11) (v := ?veU4_11) rfl (by kernel_rfl) (by kernel_rfl) (by kernel_rfl) (fun _ _ _ h => h) (Or.inl ⟨rfl, ?yeU4_11⟩) (by assumption) ?_
                  case yeU4_11 => (intro w hSw; (try dsimp only at hSw); go_simp; first | done | with_reducible rfl)
                  simp only [List.getElem_toArray, List.getElem_cons_succ, List.getElem_cons_zero, Act.put, List.setIfInBounds_toArray, List.set_cons_zero, List.set_cons_succ]
                  refine wpAnyH_take (i := 12) (v := ?veU4_12) rfl (by kernel_rfl) (by kernel_rfl) (by kernel_rfl) (fun _ _ _ h => h) (Or.inl ⟨rfl, ?yeU4_12⟩) (by assumption) ?_
                  case yeU4_12 => (intro w hSw; (try dsimp only at hSw); go_simp; first | done | with_reducible rfl)
                  simp only [List.getElem_toArray, List.getElem_cons_succ, List.getElem_cons_zero, Act.put, List.setIfInBounds_toArray, List.set_cons_zero, List.set_cons_succ]
                  refine wpAnyH_take (i := 13) (v := ?veU4_13) rfl (by kernel_rfl) (by kernel_rfl) (by kernel_rfl) (fun _ _ _ h => h) (Or.inl ⟨rfl, ?yeU4_13⟩) (by assumption) ?_
                  case yeU4_13 => (intro w hSw; (try dsimp only at hSw); go_simp; first | done | with_reducible rfl)
                  simp only [List.getElem_toArray, List.getElem_cons_succ, List.getElem_cons_zero, Act.put, List.setIfInBounds_toArray, List.set_cons_zero, List.set_cons_succ]
                  refine wpAnyH_done (by kernel_rfl) ?_ _
                  have hB5 := Lib.hid (built8_below hB.out hHeld.1)
                  have hbw5 := Lib.hid (hbw.step hHeld.1)
                  have hwz5 := hbw5.out.size
                  have hlen : (apL ps t p l k).length = k := apL_len ps t p l k
                  have hwr := Lib.hid (write_byte8 w2.heap.size w2.heap.size v.toNat (apL ps t p l k) w5 hB5.out (by omega) (by rw [hlen]; omega) hwz5)
                  rw [UInt8.ofNat_toNat] at hwr
                  clear hHeld hbw c0 d0 d1 hlen
                  go_wp2_with fail
                  refine (hwr.out).mono ?_
                  rintro e w6 ⟨rfl, hB6, hb6⟩
                  have hfin := Lib.hid (show BuiltIs w2.heap.size w2.heap.size (apL ps t p l (k + 1)) w6 ∧ Below w2.heap.size w2 w6 from ⟨by rw [hnl.out]; exact hB6, hbw5.out.trans hb6⟩)
                  clear hB6 hb6 hbw5 hB5
                  go_wp2
                  go_roundw
                  case rel => exact ⟨k + 1, by omega, by go_num, hab2.out, hfin.out⟩
                  case measure => simp [intOf]; omega
                · go_wp2
                  refine wp_region_held_drew (S := fun w' => Below wr.heap.size wr w' ∧ w'.cell? ⟨w1.heap.size, 0, none⟩ = some (.map (some r1)) ∧ w'.cell? ⟨w1.heap.size, 1, none⟩ = some (.map (some r2))) (by kernel_rfl) ?_ (fun hHeld => ?_)
                  · exact ⟨(Below.refl _ wr).drew, cell_step d0 ((Below.refl _ wr).drew), cell_step d1 ((Below.refl _ wr).drew)⟩
                  refine wpAnyH_take (i := 0) (v := ?vfU6_0) rfl (by kernel_rfl) (by kernel_rfl) (by kernel_rfl) (fun _ _ _ h => h) (Or.inl ⟨rfl, ?yfU6_0⟩) (by assumption) ?_
                  case yfU6_0 => (intro w hSw; (try dsimp only at hSw); go_simp; first | done | with_reducible rfl)
                  simp only [List.getElem_toArray, List.getElem_cons_succ, List.getElem_cons_zero, Act.put, List.setIfInBounds_toArray, List.set_cons_zero, List.set_cons_succ]
                  refine wpAnyH_take (i := 1) (v := ?vfU6_1) rfl (by kernel_rfl) (by kernel_rfl) (by kernel_rfl) (fun _ _ _ h => h) (Or.inl ⟨rfl, ?yfU6_1⟩) (by assumption) ?_
                  case yfU6_1 => (intro w hSw; (try dsimp only at hSw); go_simp; first | done | with_reducible rfl)
                  simp only [List.getElem_toArray, List.getElem_cons_succ, List.getElem_cons_zero, Act.put, List.setIfInBounds_toArray, List.set_cons_zero, List.set_cons_succ]
                  refine wpAnyH_take (i := 2) (v := ?vfU6_2) rfl (by kernel_rfl) (by kernel_rfl) (by kernel_rfl) (fun _ _ _ h => h) (Or.inl ⟨rfl, ?yfU6_2⟩) (by assumption) ?_
                  case yfU6_2 => (intro w hSw; (try dsimp only at hSw); go_simp; first | done | with_reducible rfl)
                  simp only [List.getElem_toArray, List.getElem_cons_succ, List.getElem_cons_zero, Act.put, List.setIfInBounds_toArray, List.set_cons_zero, List.set_cons_succ]
                  refine wpAnyH_take (i := 3) (v := ?vfU6_3) rfl (by kernel_rfl) (by kernel_rfl) (by kernel_rfl) (fun _ _ _ h => h) (Or.inl ⟨rfl, ?yfU6_3⟩) (by assumption) ?_
                  case yfU6_3 => (intro w hSw; (try dsimp only at hSw); go_simp; first | done | with_reducible rfl)
                  simp only [List.getElem_toArray, List.getElem_cons_succ, List.getElem_cons_zero, Act.put, List.setIfInBounds_toArray, List.set_cons_zero, List.set_cons_succ]
                  refine wpAnyH_take (i := 4) (v := ?vfU6_4) rfl (by kernel_rfl) (by kernel_rfl) (by kernel_rfl) (fun _ _ _ h => h) (Or.inl ⟨rfl, ?yfU6_4⟩) (by assumption) ?_
                  case yfU6_4 => (intro w hSw; (try dsimp only at hSw); go_simp; first | done | with_reducible rfl)
                  simp only [List.getElem_toArray, List.getElem_cons_succ, List.getElem_cons_zero, Act.put, List.setIfInBounds_toArray, List.set_cons_zero, List.set_cons_succ]
                  refine wpAnyH_take (i := 5) (v := ?vfU6_5) rfl (by kernel_rfl) (by kernel_rfl) (by kernel_rfl) (fun _ _ _ h => h) (Or.inl ⟨rfl, ?yfU6_5⟩) (by assumption) ?_
                  case yfU6_5 => (intro w hSw; (try dsimp only at hSw); go_simp; first | done | with_reducible rfl)
                  simp only [List.getElem_toArray, List.getElem_cons_succ, List.getElem_cons_zero, Act.put, List.setIfInBounds_toArray, List.set_cons_zero, List.set_cons_succ]
                  refine wpAnyH_take (i := 6) (v := ?vfU6_6) rfl (by kernel_rfl) (by kernel_rfl) (by kernel_rfl) (fun _ _ _ h => h) (Or.inl ⟨rfl, ?yfU6_6⟩) (by assumption) ?_
                  case yfU6_6 => (intro w hSw; (try dsimp only at hSw); go_simp; first | done | with_reducible rfl)
                  simp only [List.getElem_toArray, List.getElem_cons_succ, List.getElem_cons_zero, Act.put, List.setIfInBounds_toArray, List.set_cons_zero, List.set_cons_succ]
                  refine wpAnyH_take (i := 7) (v := ?vfU6_7) rfl (by kernel_rfl) (by kernel_rfl) (by kernel_rfl) (fun _ _ _ h => h) (Or.inl ⟨rfl, ?yfU6_7⟩) (by assumption) ?_
                  case yfU6_7 => (intro w hSw; (try dsimp only at hSw); go_simp; first | done | with_reducible rfl)
                  simp only [List.getElem_toArray, List.getElem_cons_succ, List.getElem_cons_zero, Act.put, List.setIfInBounds_toArray, List.set_cons_zero, List.set_cons_succ]
                  refine wpAnyH_ready (rs := [8]) (by kernel_rfl) (by simp) ?_
                  refine AllReadyH.cons rfl (fun K hK => ?_) AllReadyH.nil
                  go_simp
                  refine (hdeed.out _ (hMr.out.below (Below.refl _ wr).drew hMr.out.lt)).mono ?_
                  rintro e w5 ⟨rfl, hb5⟩
                  go_wp2_with fail
                  refine hK.out _ _ ?_ (fun hHeld => ?_)
                  · exact ⟨hHeld.1.trans (hb5.mono hHeld.1.size), cell_step hHeld.2.1 hb5, cell_step hHeld.2.2 hb5⟩
                  clear hK K
                  try simp only [List.getElem_toArray, List.getElem_cons_succ, List.getElem_cons_zero, Act.put, List.setIfInBounds_toArray, List.set_cons_zero, List.set_cons_succ]
                  refine wpAnyH_take (i := 9) (v := ?vfU6_9) rfl (by kernel_rfl) (by kernel_rfl) (by kernel_rfl) (fun _ _ _ h => h) (Or.inl ⟨rfl, ?yfU6_9⟩) (by assumption) ?_
                  case yfU6_9 => (intro w hSw; (try dsimp only at hSw); go_simp; first | done | with_reducible rfl)
                  simp only [List.getElem_toArray, List.getElem_cons_succ, List.getElem_cons_zero, Act.put, List.setIfInBounds_toArray, List.set_cons_zero, List.set_cons_succ]
                  refine wpAnyH_take (i := 10) (v := ?vfU6_10) rfl (by kernel_rfl) (by kernel_rfl) (by kernel_rfl) (fun _ _ _ h => h) (Or.inl ⟨rfl, ?yfU6_10⟩) (by assumption) ?_
                  case yfU6_10 => (intro w hSw; (try dsimp only at hSw); go_simp; first | done | with_reducible rfl)
                  simp only [List.getElem_toArray, List.getElem_cons_succ, List.getElem_cons_zero, Act.put, List.setIfInBounds_toArray, List.set_cons_zero, List.set_cons_succ]
                  refine wpAnyH_take (i := 11) (v := ?vfU6_11) rfl (by kernel_rfl) (by kernel_rfl) (by kernel_rfl) (fun _ _ _ h => h) (Or.inl ⟨rfl, ?yfU6_11⟩) (by assumption) ?_
                  case yfU6_11 => (intro w hSw; (try dsimp only at hSw); go_simp; first | done | with_reducible rfl)
                  simp only [List.getElem_toArray, List.getElem_cons_succ, List.getElem_cons_zero, Act.put, List.setIfInBounds_toArray, List.set_cons_zero, List.set_cons_succ]
                  refine wpAnyH_take (i := 12) (v := ?vfU6_12) rfl (by kernel_rfl) (by kernel_rfl) (by kernel_rfl) (fun _ _ _ h => h) (Or.inl ⟨rfl, ?yfU6_12⟩) (by assumption) ?_
                  case yfU6_12 => (intro w hSw; (try dsimp only at hSw); go_simp; first | done | with_reducible rfl)
                  simp only [List.getElem_toArray, List.getElem_cons_succ, List.getElem_cons_zero, Act.put, List.setIfInBounds_toArray, List.set_cons_zero, List.set_cons_succ]
                  refine wpAnyH_take (i := 13) (v := ?vfU6_13) rfl (by kernel_rfl) (by kernel_rfl) (by kernel_rfl) (fun _ _ _ h => h) (Or.inl ⟨rfl, ?yfU6_13⟩) (by assumption) ?_
                  case yfU6_13 => (intro w hSw; (try dsimp only at hSw); go_simp; first | done | with_reducible rfl)
                  simp only [List.getElem_toArray, List.getElem_cons_succ, List.getElem_cons_zero, Act.put, List.setIfInBounds_toArray, List.set_cons_zero, List.set_cons_succ]
                  refine wpAnyH_done (by kernel_rfl) ?_ _
                  have hB5 := Lib.hid (built8_below hB.out hHeld.1)
                  have hbw5 := Lib.hid (hbw.step hHeld.1)
                  have hwz5 := hbw5.out.size
                  have hlen : (apL ps t p l k).length = k := apL_len ps t p l k
                  have hwr := Lib.hid (write_byte8 w2.heap.size w2.heap.size v.toNat (apL ps t p l k) w5 hB5.out (by omega) (by rw [hlen]; omega) hwz5)
                  rw [UInt8.ofNat_toNat] at hwr
                  clear hHeld hbw c0 d0 d1 hlen
                  go_wp2_with fail
                  refine (hwr.out).mono ?_
                  rintro e w6 ⟨rfl, hB6, hb6⟩
                  have hfin := Lib.hid (show BuiltIs w2.heap.size w2.heap.size (apL ps t p l (k + 1)) w6 ∧ Below w2.heap.size w2 w6 from ⟨by rw [hnl.out]; exact hB6, hbw5.out.trans hb6⟩)
                  clear hB6 hb6 hbw5 hB5
                  go_wp2
                  go_roundw
                  case rel => exact ⟨k + 1, by omega, by go_num, hab2.out, hfin.out⟩
                  case measure => simp [intOf]; omega
            · obtain rfl : k = p.size := by omega
              have hres2 : Hid (r = (⟨(apL ps t p l p.size).toArray⟩, 0)) := Lib.hid (by rw [hres.out, if_pos hab.out])
              have hstr := Lib.hid (Try.Builder_String_any_f w2.heap.size w2.heap.size (apL ps t p l p.size) wr hB.out hwz)
              go_wp2_with fail
              refine (hstr.out).mono ?_
              rintro e w6 ⟨rfl, _, hb6⟩
              have hbz := Lib.hid (hbw2.out.trans ((hbw.trans hb6).mono hbw2.out.size))
              clear hb6
              go_wp2
              go_ret2
              exact ⟨ret12_p (by have hq2 := hres2.out; rw [h2.trans hz1] at hq2; exact hq2), hbz.out⟩
      · have hres : Hid (r = (ByteArray.empty, 6)) := Lib.hid (by rw [hr.out, apR, if_pos hq, h1, if_pos rfl, if_neg h2])
        have g1 : ((p.size : Int) == (t.size : Int)) = false := beq_eq_false_iff_ne.2 (by omega)
        have g2 : ((p.size : Int) != (t.size : Int)) = true := by rw [bne, g1]; rfl
        have g3 : (p.size == t.size) = false := beq_eq_false_iff_ne.2 h2
        replace h2 := Lib.hid h2
        clear hr h1 hdd h hg hq
        go_enter Try.func27, Try.ntmps27
        go_wp2_with fail
        refine (hrd.out).mono ?_
        rintro e w1 ⟨hb1, ⟨h9, _⟩ | ⟨_, r1, r2, rfl, hM1, hM2⟩⟩
        · exact absurd rfl h9
        · go_wp2_with fail
          refine (hd1.out _).mono ?_
          rintro e w2 ⟨x, rfl, hb2, hrow⟩
          obtain ⟨A', c', rfl⟩ := owns_form8 (hrow trivial)
          have hbz := (hb1.alloc hb1.size (.cells #[.map (some r1), .map (some r2)] 74)).step hb2
          clear hb2 hM1 hM2 hrow
          go_wp2
          go_ret2
          exact ⟨ret12_p hres.out, hbz⟩
  · have hres : Hid (r = (ByteArray.empty, q)) := Lib.hid (by rw [hr.out, apR, hq, if_neg h0])
    have g0 : (q == 0) = false := beq_eq_false_iff_ne.2 h0
    have g4 : (q != 0) = true := by rw [bne, g0]; rfl
    replace h0 := Lib.hid h0
    clear hr h hg hq
    go_enter Try.func27, Try.ntmps27
    go_wp2_with fail
    refine (hrd.out).mono ?_
    rintro e w1 ⟨hb1, ⟨_, rfl⟩ | ⟨h9, _⟩⟩
    · go_wp2
      go_ret2
      exact ⟨ret12_p hres.out, hb1.alloc hb1.size _⟩
    · exact absurd h9 h0.out
end Go.Proofs.Ytomnnhmhmehdjaa
