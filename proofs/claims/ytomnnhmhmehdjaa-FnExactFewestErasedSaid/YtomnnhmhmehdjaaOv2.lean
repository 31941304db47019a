/- Corrections: the overtyping of rules, and which rules are valid, by the program. -/
import Derived.Test.YtomnnhmhmehdjaaOv1
import Derived.Test.YtomnnhmhmehdjaaPp3
namespace Go.Proofs.Ytomnnhmhmehdjaa
open Go.RowKit Go.ChangeShapes Go.WideShapes Go.Deep Go.ChangeMaps Go.MapKept
set_option linter.unusedVariables false
set_option linter.unusedSimpArgs false

theorem letC_pos {s : ByteArray} (h : letC s = true) : (bAt s 0).toNat ≠ 0 := by
  simp only [letC, Bool.and_eq_true, decide_eq_true_eq] at h
  omega
theorem oneB_parts {x : OverD} (h : oneB x = true) : letC x.under = true ∧ letC x.top = true ∧ letC x.seen = true := by
  simp only [oneB, Bool.and_eq_true] at h
  exact ⟨h.1, h.2.1, h.2.2.1⟩
theorem dupB_one {y x : OverD} (hy : oneB y = true) (hx : oneB x = true) : dupB y x = decide (bAt y.under 0 = bAt x.under 0 ∧ bAt y.top 0 = bAt x.top 0) := by
  obtain ⟨a0, a1, a2⟩ := oneB_sizes hy
  obtain ⟨b0, b1, b2⟩ := oneB_sizes hx
  rw [dupB, sameB_one a0 b0, sameB_one a1 b1, Bool.decide_and]
theorem dup_val : ∀ (qs : List OverD) (x : OverD), (∀ y ∈ qs, oneB y = true) → oneB x = true → qs.all (fun y => !dupB y x) = (valOf (bAt x.under 0, bAt x.top 0) (seenE qs)).isNone
  | [], _, _, _ => rfl
  | y :: r, x, hq, hx => by
    have ih := dup_val r x (fun z hz => hq z (List.mem_cons_of_mem _ hz)) hx
    have e : seenE (y :: r) = ((bAt y.under 0, bAt y.top 0), byteV (bAt y.seen 0)) :: seenE r := rfl
    rw [List.all_cons, ih, e, valOf, dupB_one (hq y List.mem_cons_self) hx]
    by_cases h : bAt y.under 0 = bAt x.under 0 ∧ bAt y.top 0 = bAt x.top 0
    · have h' : (bAt x.under 0, bAt x.top 0) = (bAt y.under 0, bAt y.top 0) := by rw [h.1, h.2]
      rw [if_pos h', decide_eq_true h]; rfl
    · have h' : ¬ (bAt x.under 0, bAt x.top 0) = (bAt y.under 0, bAt y.top 0) := fun hh => h ⟨(Prod.mk.inj hh).1.symm, (Prod.mk.inj hh).2.symm⟩
      rw [if_neg h', decide_eq_false h]; rfl
/-- A rule is added. -/
theorem add12 (r1 r2 : Nat) (hr : r1 ≠ r2) (qs : List OverD) (x : OverD) (hq : ∀ y ∈ qs, oneB y = true) (hx : oneB x = true) (w : World) (hS : MapIs bpV w r1 (seenE qs)) (hT : MapIs bpV w r2 (topE qs)) (B : Nat) (hB : B ≤ w.heap.size) (hB1 : B ≤ r1) (hB2 : B ≤ r2) :
    Calls Try.prog 87 #[.agg #[.map (some r1), .map (some r2)], .int .u8 ((bAt x.under 0).toNat : Int), .int .u8 ((bAt x.top 0).toNat : Int), .int .u8 ((bAt x.seen 0).toNat : Int)] w fun e w' =>
      e = .returned (.bool (qs.all (fun y => !dupB y x))) ∧ Below B w w' ∧ (∀ j, j < w.heap.size → j ≠ r1 → j ≠ r2 → w'.heap[j]? = w.heap[j]?) ∧ (qs.all (fun y => !dupB y x) = true → MapIs bpV w' r1 (seenE (qs ++ [x])) ∧ MapIs bpV w' r2 (topE (qs ++ [x]))) := by
  have hd := dup_val qs x hq hx
  have hs1 : seenE (qs ++ [x]) = seenE qs ++ [((bAt x.under 0, bAt x.top 0), byteV (bAt x.seen 0))] := by simp [seenE]
  have ht1 : topE (qs ++ [x]) = topStep (topE qs) x := by simp [topE, List.foldl_append]
  have hsv := seenE_val qs (bAt x.under 0) (bAt x.top 0) (fun y hy => letC_pos (oneB_parts (hq y hy)).2.2)
  have htv := topE_get qs (bAt x.under 0) (bAt x.seen 0) (fun y hy => letC_pos (oneB_parts (hq y hy)).2.1)
  generalize qs.all (fun y => !dupB y x) = d at *
  by_cases h0 : (seenL qs (bAt x.under 0) (bAt x.top 0)).toNat = 0
  · rw [if_pos h0] at hsv
    have hdt : d = true := by rw [hd, hsv]; rfl
    by_cases h1 : (topL 0 qs (bAt x.under 0) (bAt x.seen 0)).toNat = 0
    · rw [if_pos h1] at htv
      refine (add_none12 r1 r2 hr _ _ _ 0 _ _ w hS hT hsv htv B hB hB1 hB2).mono ?_
      rintro e w' ⟨rfl, h2, h3, h4, h5⟩
      have e2 : topStep (topE qs) x = setL (bAt x.under 0, bAt x.seen 0) (byteV (bAt x.top 0)) (topE qs) := by unfold topStep; rw [htv]
      exact ⟨by rw [hdt], h4, h5, fun _ => ⟨by rw [hs1]; exact h2, by rw [ht1, e2]; exact h3⟩⟩
    · rw [if_neg h1] at htv
      by_cases hlt : (bAt x.top 0).toNat < (topL 0 qs (bAt x.under 0) (bAt x.seen 0)).toNat
      · refine (add_less12 r1 r2 hr _ _ _ _ _ _ w hS hT hsv htv hlt B hB hB1 hB2).mono ?_
        rintro e w' ⟨rfl, h2, h3, h4, h5⟩
        have e2 : topStep (topE qs) x = setL (bAt x.under 0, bAt x.seen 0) (byteV (bAt x.top 0)) (topE qs) := by
          unfold topStep
          rw [htv]
          simp only [byteV]
          rw [if_pos (by omega)]
        exact ⟨by rw [hdt], h4, h5, fun _ => ⟨by rw [hs1]; exact h2, by rw [ht1, e2]; exact h3⟩⟩
      · refine (add_more12 r1 r2 hr _ _ _ _ _ _ w hS hT hsv htv hlt B hB hB1 hB2).mono ?_
        rintro e w' ⟨rfl, h2, h3, h4, h5⟩
        have e2 : topStep (topE qs) x = topE qs := by
          unfold topStep
          rw [htv]
          simp only [byteV]
          rw [if_neg (by omega)]
        exact ⟨by rw [hdt], h4, h5, fun _ => ⟨by rw [hs1]; exact h2, by rw [ht1, e2]; exact h3⟩⟩
  · rw [if_neg h0] at hsv
    have hdf : d = false := by rw [hd, hsv]; rfl
    refine (add_no12 r1 r2 _ _ _ _ _ w hS hsv).mono ?_
    rintro e w' ⟨rfl, h2⟩
    exact ⟨by rw [hdf], h2.mono hB, fun j hj _ _ => h2.block j hj, fun h => by rw [hdf] at h; cases h⟩

theorem below_a4 (w : World) (a b c d : Obj) : Below w.heap.size w ((((w.alloc a).alloc b).alloc c).alloc d) := (below_a3 w a b c).alloc (by simp; omega) _
theorem blocks4a (w : World) (a b c d : Obj) : ((((w.alloc a).alloc b).alloc c).alloc d).heap[w.heap.size]? = some a ∧ ((((w.alloc a).alloc b).alloc c).alloc d).heap[w.heap.size + 1]? = some b ∧ ((((w.alloc a).alloc b).alloc c).alloc d).heap[w.heap.size + 1 + 1]? = some c ∧ ((((w.alloc a).alloc b).alloc c).alloc d).heap[w.heap.size + 1 + 1 + 1]? = some d := by
  obtain ⟨h1, h2, h3⟩ := blocks3a w a b c
  refine ⟨(heap_alloc_old _ _ (own_lt h1)).trans h1, (heap_alloc_old _ _ (own_lt h2)).trans h2, (heap_alloc_old _ _ (own_lt h3)).trans h3, ?_⟩
  rw [show w.heap.size + 1 + 1 + 1 = (((w.alloc a).alloc b).alloc c).heap.size by simp, heap_alloc_new]
theorem set_else12 {w w0 : World} {R Q i : Nat} {v : Value} (h : w.heap[Q]? = w0.heap[Q]?) (hne : R ≠ Q) : (w.setCell ⟨R, i, none⟩ v).heap[Q]? = w0.heap[Q]? := by
  unfold World.setCell
  simp only [Array.getElem?_modify]
  rw [if_neg hne]
  exact h
theorem cell_heap12 {w w' : World} {b o : Nat} {u : Value} (h : w.cell? ⟨b, o, none⟩ = some u) (e : w'.heap[b]? = w.heap[b]?) : w'.cell? ⟨b, o, none⟩ = some u := by
  unfold World.cell? at h ⊢
  rw [e]
  exact h
theorem made12 {w : World} {r : Nat} (h : w.heap[r]? = some (.map #[] 0)) : MapIs bpV w r ([] : List ((UInt8 × UInt8) × Value)) := ⟨#[], 0, h, rfl, by simp, by simp⟩
/-- What is made of rules. -/
def OvOut (ps : List OverD) (v : Bool) (w : World) (e : Ending) (w' : World) : Prop :=
  Below w.heap.size w w' ∧ ((v = false ∧ e = .returned (.tuple #[.agg #[.map none, .map none], .bool false])) ∨
    (v = true ∧ ∃ r1 r2, e = .returned (.tuple #[.agg #[.map (some r1), .map (some r2)], .bool true]) ∧ MapIs bpV w' r1 (seenE ps) ∧ MapIs bpV w' r2 (topE ps)))
set_option maxRecDepth 100000 in
set_option maxHeartbeats 3200000 in
theorem newov12 (A : Option Addr) (n c : Nat) (ps : List OverD) {v : Bool} (hv : ovB ps = v) (w : World) (h : Overs w A n ps) (hn : n ≤ 1048576) (hg : ∀ x ∈ ps, x.good) :
    Calls Try.prog 54 #[.slice A n c] w (OvOut ps v w) := by
  have hl := Lib.hid h.1
  by_cases h20 : 20 < n
  · have g1 : decide ((20 : Int) < (n : Int)) = true := decide_eq_true (by omega)
    have hr : Hid (v = false) := Lib.hid (by rw [← hv, ovB, decide_eq_false (by rw [hl.out]; omega), Bool.and_false])
    replace h20 := Lib.hid h20
    clear hv hg
    go_enter Try.func54, Try.ntmps54
    go_wp2
    refine bodyPost_ret (v := .tuple #[.agg #[.map none, .map none], .bool false]) (by simp [results, Try.results54, go_sem]) rfl ?_
    exact ⟨below_a1 _ _, .inl ⟨hr.out, rfl⟩⟩
  · have g1 : decide ((20 : Int) < (n : Int)) = false := decide_eq_false (by omega)
    have hv2 : Hid (v = okFrom [] ps) := Lib.hid (by rw [← hv, ovB, decide_eq_true (by rw [hl.out]; omega), Bool.and_true])
    have hgd := Lib.hid hg
    have hno1 := Lib.hid (fun (x : OverD) (hx : x.good) (b : Bool) (hb : oneB x = b) W => valid12i x hb W hx)
    clear hv hg
    have hmm := @run_makeMap Try.prog
    go_enter Try.func54, Try.ntmps54
    go_wp2
    clear hmm
    go_loopw [3, 16] (fun _ i wr => ∃ k : Nat, k ≤ n ∧ i = .int .i64 (k : Int) ∧ okFrom [] ps = okFrom (ps.take k) (ps.drop k) ∧ (∀ y ∈ ps.take k, oneB y = true) ∧ wr.heap[w.heap.size]? = some (.cells #[.map none, .map none] 74) ∧ wr.heap[w.heap.size + 1 + 1 + 1]? = some (.cells #[.map (some (w.heap.size + 1)), .map (some (w.heap.size + 1 + 1))] 74) ∧ MapIs bpV wr (w.heap.size + 1) (seenE (ps.take k)) ∧ MapIs bpV wr (w.heap.size + 1 + 1) (topE (ps.take k)) ∧ Below w.heap.size w wr) (fun _ i _ => n - (intOf i).toNat)
    case atStart =>
      obtain ⟨k0, k1, k2, k3⟩ := blocks4a w (.cells #[.map none, .map none] 74) (.map #[] 0) (.map #[] 0) (.cells #[.map (some (w.heap.size + 1)), .map (some (w.heap.size + 1 + 1))] 74)
      exact ⟨0, by omega, rfl, rfl, fun y hy => by simp at hy, k0, k3, made12 k1, made12 k2, below_a4 _ _ _ _ _⟩
    case round =>
      rename World => wr
      obtain ⟨k, hk, rfl, hok, hone, hR, hO, hM1, hM2, hbw⟩ := hrel
      have hwz := hbw.size
      replace hok := Lib.hid hok
      replace hone := Lib.hid hone
      by_cases hlt : k < n
      · obtain ⟨b, off, x, rfl, hb, hx, c0, c1, c2⟩ := over_at (h.below hbw) hlt
        have hk0 : (0 : Int) ≤ (k : Int) := by omega
        have hk1 : (k : Int) < (n : Int) := by omega
        have hwk : IntKind.i64.wrap ((k : Int) + 1) = ((k + 1 : Nat) : Int) := by rw [IntWalk.i64_in _ (by omega)]; omega
        have hst := Lib.hid (okFrom_at hx.out)
        have hxg := hgd.out x (List.mem_of_getElem? hx.out)
        have htk := Lib.hid (take8 hx.out)
        cases h1 : oneB x with
        | false =>
          have hr : Hid (v = false) := Lib.hid (by rw [hv2.out, hok.out, hst.out, h1]; rfl)
          have hc1 := Lib.hid (hno1.out x hxg false h1)
          clear h1 hst hok hone hM1 hM2
          go_wp2
          have hlO := own_lt hO
          have hbA : Below w.heap.size w ((wr.alloc (.cells #[.string x.under, .string x.top, .string x.seen] 59)).drew) := (hbw.alloc hwz _).drew
          have hRA : ((wr.alloc (.cells #[.string x.under, .string x.top, .string x.seen] 59)).drew).heap[w.heap.size]? = some (.cells #[.map none, .map none] 74) := (heap_alloc_old _ _ (own_lt hR)).trans hR
          have hOA : ((wr.alloc (.cells #[.string x.under, .string x.top, .string x.seen] 59)).drew).heap[w.heap.size + 1 + 1 + 1]? = some (.cells #[.map (some (w.heap.size + 1)), .map (some (w.heap.size + 1 + 1))] 74) := (heap_alloc_old _ _ (own_lt hO)).trans hO
          have hXA : ((wr.alloc (.cells #[.string x.under, .string x.top, .string x.seen] 59)).drew).heap[wr.heap.size]? = some (.cells #[.string x.under, .string x.top, .string x.seen] 59) := heap_alloc_new _ _
          have hcX0 := own_cell hXA (o := 0) rfl
          have hcX1 := own_cell hXA (o := 1) rfl
          have hcX2 := own_cell hXA (o := 2) rfl
          have ho0 := own_cell hOA (o := 0) rfl
          have ho1 := own_cell hOA (o := 1) rfl
          go_wp2_with fail
          refine wp_region_held_drew (S := fun w' => Below w.heap.size w w' ∧ w'.heap[w.heap.size]? = some (.cells #[.map none, .map none] 74) ∧ w'.cell? ⟨wr.heap.size, 0, none⟩ = some (.string x.under) ∧ w'.cell? ⟨wr.heap.size, 1, none⟩ = some (.string x.top) ∧ w'.cell? ⟨wr.heap.size, 2, none⟩ = some (.string x.seen) ∧ w'.cell? ⟨w.heap.size + 1 + 1 + 1, 0, none⟩ = some (.map (some (w.heap.size + 1))) ∧ w'.cell? ⟨w.heap.size + 1 + 1 + 1, 1, none⟩ = some (.map (some (w.heap.size + 1 + 1)))) (by kernel_rfl) ?_ (fun hHeld => ?_)
          · exact ⟨hbA, hRA, hcX0, hcX1, hcX2, ho0, ho1⟩
          refine wpAnyH_take (i := 0) (v := ?vaU1_0) rfl (by kernel_rfl) (by kernel_rfl) (by kernel_rfl) (fun _ _ _ h => h) (Or.inl ⟨rfl, ?yaU1_0⟩) (by assumption) ?_
          case yaU1_0 => (intro w hSw; (try dsimp only at hSw); go_simp; first | done | with_reducible rfl)
          simp only [List.getElem_toArray, List.getElem_cons_succ, List.getElem_cons_zero, Act.put, List.setIfInBounds_toArray, List.set_cons_zero, List.set_cons_succ]
          refine wpAnyH_ready (rs := [1]) (by kernel_rfl) (by simp) ?_
          refine AllReadyH.cons rfl (fun K hK => ?_) AllReadyH.nil
          go_simp
          refine (hc1.out _).mono ?_
          rintro e w5 ⟨rfl, hb5⟩
          go_wp2_with fail
          refine hK.out _ _ ?_ (fun hHeld => ?_)
          · exact ⟨hHeld.1.step hb5, (hb5.block _ (own_lt hHeld.2.1)).trans hHeld.2.1, cell_step hHeld.2.2.1 hb5, cell_step hHeld.2.2.2.1 hb5, cell_step hHeld.2.2.2.2.1 hb5, cell_step hHeld.2.2.2.2.2.1 hb5, cell_step hHeld.2.2.2.2.2.2 hb5⟩
          clear hK K
          try simp only [List.getElem_toArray, List.getElem_cons_succ, List.getElem_cons_zero, Act.put, List.setIfInBounds_toArray, List.set_cons_zero, List.set_cons_succ]
          refine wpAnyH_take (i := 2) (v := ?vaU1_2) rfl (by kernel_rfl) (by kernel_rfl) (by kernel_rfl) (fun _ _ _ h => h) (Or.inl ⟨rfl, ?yaU1_2⟩) (by assumption) ?_
          case yaU1_2 => (intro w hSw; (try dsimp only at hSw); go_simp; first | done | with_reducible rfl)
          simp only [List.getElem_toArray, List.getElem_cons_succ, List.getElem_cons_zero, Act.put, List.setIfInBounds_toArray, List.set_cons_zero, List.set_cons_succ]
          refine wpAnyH_take (i := 3) (v := ?vaU1_3) rfl (by kernel_rfl) (by kernel_rfl) (by kernel_rfl) (fun _ _ _ h => h) (Or.inl ⟨rfl, ?yaU1_3⟩) (by assumption) ?_
          case yaU1_3 => (intro w hSw; (try dsimp only at hSw); go_simp; first | done | with_reducible rfl)
          simp only [List.getElem_toArray, List.getElem_cons_succ, List.getElem_cons_zero, Act.put, List.setIfInBounds_toArray, List.set_cons_zero, List.set_cons_succ]
          refine wpAnyH_take (i := 4) (v := undef) rfl (by kernel_rfl) (by kernel_rfl) (by kernel_rfl) (fun _ _ _ h => h) (Or.inr ⟨rfl, rfl⟩) (by assumption) ?_
          simp only [List.getElem_toArray, List.getElem_cons_succ, List.getElem_cons_zero, Act.put, List.setIfInBounds_toArray, List.set_cons_zero, List.set_cons_succ]
          refine wpAnyH_take (i := 5) (v := undef) rfl (by kernel_rfl) (by kernel_rfl) (by kernel_rfl) (fun _ _ _ h => h) (Or.inr ⟨rfl, rfl⟩) (by assumption) ?_
          simp only [List.getElem_toArray, List.getElem_cons_succ, List.getElem_cons_zero, Act.put, List.setIfInBounds_toArray, List.set_cons_zero, List.set_cons_succ]
          refine wpAnyH_take (i := 6) (v := undef) rfl (by kernel_rfl) (by kernel_rfl) (by kernel_rfl) (fun _ _ _ h => h) (Or.inr ⟨rfl, rfl⟩) (by assumption) ?_
          simp only [List.getElem_toArray, List.getElem_cons_succ, List.getElem_cons_zero, Act.put, List.setIfInBounds_toArray, List.set_cons_zero, List.set_cons_succ]
          refine wpAnyH_take (i := 7) (v := undef) rfl (by kernel_rfl) (by kernel_rfl) (by kernel_rfl) (fun _ _ _ h => h) (Or.inr ⟨rfl, rfl⟩) (by assumption) ?_
          simp only [List.getElem_toArray, List.getElem_cons_succ, List.getElem_cons_zero, Act.put, List.setIfInBounds_toArray, List.set_cons_zero, List.set_cons_succ]
          refine wpAnyH_take (i := 8) (v := undef) rfl (by kernel_rfl) (by kernel_rfl) (by kernel_rfl) (fun _ _ _ h => h) (Or.inr ⟨rfl, rfl⟩) (by assumption) ?_
          simp only [List.getElem_toArray, List.getElem_cons_succ, List.getElem_cons_zero, Act.put, List.setIfInBounds_toArray, List.set_cons_zero, List.set_cons_succ]
          refine wpAnyH_take (i := 9) (v := undef) rfl (by kernel_rfl) (by kernel_rfl) (by kernel_rfl) (fun _ _ _ h => h) (Or.inr ⟨rfl, rfl⟩) (by assumption) ?_
          simp only [List.getElem_toArray, List.getElem_cons_succ, List.getElem_cons_zero, Act.put, List.setIfInBounds_toArray, List.set_cons_zero, List.set_cons_succ]
          refine wpAnyH_take (i := 10) (v := undef) rfl (by kernel_rfl) (by kernel_rfl) (by kernel_rfl) (fun _ _ _ h => h) (Or.inr ⟨rfl, rfl⟩) (by assumption) ?_
          simp only [List.getElem_toArray, List.getElem_cons_succ, List.getElem_cons_zero, Act.put, List.setIfInBounds_toArray, List.set_cons_zero, List.set_cons_succ]
          refine wpAnyH_take (i := 11) (v := undef) rfl (by kernel_rfl) (by kernel_rfl) (by kernel_rfl) (fun _ _ _ h => h) (Or.inr ⟨rfl, rfl⟩) (by assumption) ?_
          simp only [List.getElem_toArray, List.getElem_cons_succ, List.getElem_cons_zero, Act.put, List.setIfInBounds_toArray, List.set_cons_zero, List.set_cons_succ]
          refine wpAnyH_take (i := 12) (v := undef) rfl (by kernel_rfl) (by kernel_rfl) (by kernel_rfl) (fun _ _ _ h => h) (Or.inr ⟨rfl, rfl⟩) (by assumption) ?_
          simp only [List.getElem_toArray, List.getElem_cons_succ, List.getElem_cons_zero, Act.put, List.setIfInBounds_toArray, List.set_cons_zero, List.set_cons_succ]
          refine wpAnyH_take (i := 13) (v := undef) rfl (by kernel_rfl) (by kernel_rfl) (by kernel_rfl) (fun _ _ _ h => h) (Or.inr ⟨rfl, rfl⟩) (by assumption) ?_
          simp only [List.getElem_toArray, List.getElem_cons_succ, List.getElem_cons_zero, Act.put, List.setIfInBounds_toArray, List.set_cons_zero, List.set_cons_succ]
          refine wpAnyH_take (i := 14) (v := undef) rfl (by kernel_rfl) (by kernel_rfl) (by kernel_rfl) (fun _ _ _ h => h) (Or.inr ⟨rfl, rfl⟩) (by assumption) ?_
          simp only [List.getElem_toArray, List.getElem_cons_succ, List.getElem_cons_zero, Act.put, List.setIfInBounds_toArray, List.set_cons_zero, List.set_cons_succ]
          refine wpAnyH_take (i := 15) (v := undef) rfl (by kernel_rfl) (by kernel_rfl) (by kernel_rfl) (fun _ _ _ h => h) (Or.inr ⟨rfl, rfl⟩) (by assumption) ?_
          simp only [List.getElem_toArray, List.getElem_cons_succ, List.getElem_cons_zero, Act.put, List.setIfInBounds_toArray, List.set_cons_zero, List.set_cons_succ]
          refine wpAnyH_take (i := 16) (v := ?vaU1_16) rfl (by kernel_rfl) (by kernel_rfl) (by kernel_rfl) (fun _ _ _ h => h) (Or.inl ⟨rfl, ?yaU1_16⟩) (by assumption) ?_
          case yaU1_16 => (intro w hSw; (try dsimp only at hSw); go_simp; first | done | with_reducible rfl)
          simp only [List.getElem_toArray, List.getElem_cons_succ, List.getElem_cons_zero, Act.put, List.setIfInBounds_toArray, List.set_cons_zero, List.set_cons_succ]
          refine wpAnyH_done (by kernel_rfl) ?_ _
          have hR' := hHeld.2.1
          have hbf := hHeld.1
          clear hHeld hcX0 hcX1 hcX2 ho0 ho1 hbA hRA
          have L0 := own_cell hR' (o := 0) rfl
          have L1 := own_cell hR' (o := 1) rfl
          have F0 := own_frozen hR' 0
          have F1 := own_frozen hR' 1
          have hlR := own_lt hR'
          go_wp2
          have hZ := set_block12 (i := 1) (v := .map none) (set_block12 (i := 0) (v := .map none) hR')
          simp only [List.setIfInBounds_toArray, List.set_cons_zero, List.set_cons_succ] at hZ
          have hbz : Below w.heap.size w ((w5.setCell ⟨w.heap.size, 0, none⟩ (.map none)).setCell ⟨w.heap.size, 1, none⟩ (.map none)) := (hbf.setCell (Nat.le_refl _) _).setCell (Nat.le_refl _) _
          generalize (w5.setCell ⟨w.heap.size, 0, none⟩ (.map none)).setCell ⟨w.heap.size, 1, none⟩ (.map none) = wz at *
          have hlz := own_lt hZ
          have z0 := own_cell hZ (o := 0) rfl
          have z1 := own_cell hZ (o := 1) rfl
          refine bodyPost_ret (v := .tuple #[.agg #[.map none, .map none], .bool false]) (by simp [results, Try.results54, go_sem, z0, z1, hlz]) rfl ?_
          exact ⟨hbz, .inl ⟨hr.out, rfl⟩⟩
        | true =>
          have hc1 := Lib.hid (hno1.out x hxg true h1)
          obtain ⟨s0, s1, s2⟩ := oneB_sizes h1
          have p0 : 0 < x.under.size := by omega
          have p1 : 0 < x.top.size := by omega
          have p2 : 0 < x.seen.size := by omega
          have i0 : (0 : Int) < (x.under.size : Int) := by omega
          have i1 : (0 : Int) < (x.top.size : Int) := by omega
          have i2 : (0 : Int) < (x.seen.size : Int) := by omega
          have hadd := Lib.hid (fun (W : World) h5 h6 (h7 : w.heap.size ≤ W.heap.size) => add12 (w.heap.size + 1) (w.heap.size + 1 + 1) (by omega) (ps.take k) x hone.out h1 W h5 h6 w.heap.size h7 (by omega) (by omega))
          rw [bAt_eq p0, bAt_eq p1, bAt_eq p2, ← htk.out] at hadd
          have hone' := Lib.hid (fun y (hy : y ∈ ps.take (k + 1)) => show oneB y = true by
            rw [htk.out, List.mem_append] at hy
            rcases hy with hy | hy
            · exact hone.out y hy
            · simp at hy; rw [hy]; exact h1)
          have hst2 : Hid (okFrom [] ps = ((ps.take k).all (fun y => !dupB y x) && okFrom (ps.take (k + 1)) (ps.drop (k + 1)))) := Lib.hid (by rw [hok.out, hst.out, h1, Bool.true_and])
          clear h1 hst hok hone
          generalize (ps.take k).all (fun y => !dupB y x) = d at *
          go_wp2
          have hlO := own_lt hO
          have hbA : Below w.heap.size w ((wr.alloc (.cells #[.string x.under, .string x.top, .string x.seen] 59)).drew) := (hbw.alloc hwz _).drew
          have hRA : ((wr.alloc (.cells #[.string x.under, .string x.top, .string x.seen] 59)).drew).heap[w.heap.size]? = some (.cells #[.map none, .map none] 74) := (heap_alloc_old _ _ (own_lt hR)).trans hR
          have hOA : ((wr.alloc (.cells #[.string x.under, .string x.top, .string x.seen] 59)).drew).heap[w.heap.size + 1 + 1 + 1]? = some (.cells #[.map (some (w.heap.size + 1)), .map (some (w.heap.size + 1 + 1))] 74) := (heap_alloc_old _ _ (own_lt hO)).trans hO
          have hXA : ((wr.alloc (.cells #[.string x.under, .string x.top, .string x.seen] 59)).drew).heap[wr.heap.size]? = some (.cells #[.string x.under, .string x.top, .string x.seen] 59) := heap_alloc_new _ _
          have hcX0 := own_cell hXA (o := 0) rfl
          have hcX1 := own_cell hXA (o := 1) rfl
          have hcX2 := own_cell hXA (o := 2) rfl
          have ho0 := own_cell hOA (o := 0) rfl
          have ho1 := own_cell hOA (o := 1) rfl
          cases d with
          | false =>
            have hr : Hid (v = false) := Lib.hid (by rw [hv2.out, hst2.out]; rfl)
            go_wp2_with fail
            refine wp_region_held_drew (S := fun w' => Below w.heap.size w w' ∧ w'.heap[w.heap.size]? = some (.cells #[.map none, .map none] 74) ∧ w'.cell? ⟨wr.heap.size, 0, none⟩ = some (.string x.under) ∧ w'.cell? ⟨wr.heap.size, 1, none⟩ = some (.string x.top) ∧ w'.cell? ⟨wr.heap.size, 2, none⟩ = some (.string x.seen) ∧ w'.cell? ⟨w.heap.size + 1 + 1 + 1, 0, none⟩ = some (.map (some (w.heap.size + 1))) ∧ w'.cell? ⟨w.heap.size + 1 + 1 + 1, 1, none⟩ = some (.map (some (w.heap.size + 1 + 1)))) (by kernel_rfl) ?_ (fun hHeld => ?_)
            · exact ⟨hbA, hRA, hcX0, hcX1, hcX2, ho0, ho1⟩
            refine wpAnyH_take (i := 0) (v := ?vbU2_0) rfl (by kernel_rfl) (by kernel_rfl) (by kernel_rfl) (fun _ _ _ h => h) (Or.inl ⟨rfl, ?ybU2_0⟩) (by assumption) ?_
            case ybU2_0 => (intro w hSw; (try dsimp only at hSw); go_simp; first | done | with_reducible rfl)
            simp only [List.getElem_toArray, List.getElem_cons_succ, List.getElem_cons_zero, Act.put, List.setIfInBounds_toArray, List.set_cons_zero, List.set_cons_succ]
            refine wpAnyH_ready (rs := [1]) (by kernel_rfl) (by simp) ?_
            refine AllReadyH.cons rfl (fun K hK => ?_) AllReadyH.nil
            go_simp
            refine (hc1.out _).mono ?_
            rintro e w5 ⟨rfl, hb5⟩
            have hbx : Below wr.heap.size wr w5 := ((below_a1 wr _).drew).step hb5
            have hM1' := hM1.below hbx hM1.lt
            have hM2' := hM2.below hbx hM2.lt
            have hz5 : wr.heap.size + 1 ≤ w5.heap.size := by have := hb5.size; simpa using this
            have hO5 := (hb5.block _ (own_lt hOA)).trans hOA
            go_wp2_with fail
            refine hK.out _ _ ?_ (fun hHeld => ?_)
            · exact ⟨hHeld.1.step hb5, (hb5.block _ (own_lt hHeld.2.1)).trans hHeld.2.1, cell_step hHeld.2.2.1 hb5, cell_step hHeld.2.2.2.1 hb5, cell_step hHeld.2.2.2.2.1 hb5, cell_step hHeld.2.2.2.2.2.1 hb5, cell_step hHeld.2.2.2.2.2.2 hb5⟩
            clear hK K
            try simp only [List.getElem_toArray, List.getElem_cons_succ, List.getElem_cons_zero, Act.put, List.setIfInBounds_toArray, List.set_cons_zero, List.set_cons_succ]
            refine wpAnyH_take (i := 2) (v := ?vbU2_2) rfl (by kernel_rfl) (by kernel_rfl) (by kernel_rfl) (fun _ _ _ h => h) (Or.inl ⟨rfl, ?ybU2_2⟩) (by assumption) ?_
            case ybU2_2 => (intro w hSw; (try dsimp only at hSw); go_simp; first | done | with_reducible rfl)
            simp only [List.getElem_toArray, List.getElem_cons_succ, List.getElem_cons_zero, Act.put, List.setIfInBounds_toArray, List.set_cons_zero, List.set_cons_succ]
            refine wpAnyH_take (i := 3) (v := ?vbU2_3) rfl (by kernel_rfl) (by kernel_rfl) (by kernel_rfl) (fun _ _ _ h => h) (Or.inl ⟨rfl, ?ybU2_3⟩) (by assumption) ?_
            case ybU2_3 => (intro w hSw; (try dsimp only at hSw); go_simp; first | done | with_reducible rfl)
            simp only [List.getElem_toArray, List.getElem_cons_succ, List.getElem_cons_zero, Act.put, List.setIfInBounds_toArray, List.set_cons_zero, List.set_cons_succ]
            refine wpAnyH_take (i := 4) (v := ?vbU2_4) rfl (by kernel_rfl) (by kernel_rfl) (by kernel_rfl) (fun _ _ _ h => h) (Or.inl ⟨rfl, ?ybU2_4⟩) (by assumption) ?_
            case ybU2_4 => (intro w hSw; (try dsimp only at hSw); go_simp; first | done | with_reducible rfl)
            simp only [List.getElem_toArray, List.getElem_cons_succ, List.getElem_cons_zero, Act.put, List.setIfInBounds_toArray, List.set_cons_zero, List.set_cons_succ]
            refine wpAnyH_take (i := 5) (v := ?vbU2_5) rfl (by kernel_rfl) (by kernel_rfl) (by kernel_rfl) (fun _ _ _ h => h) (Or.inl ⟨rfl, ?ybU2_5⟩) (by assumption) ?_
            case ybU2_5 => (intro w hSw; (try dsimp only at hSw); go_simp; first | done | with_reducible rfl)
            simp only [List.getElem_toArray, List.getElem_cons_succ, List.getElem_cons_zero, Act.put, List.setIfInBounds_toArray, List.set_cons_zero, List.set_cons_succ]
            refine wpAnyH_take (i := 6) (v := ?vbU2_6) rfl (by kernel_rfl) (by kernel_rfl) (by kernel_rfl) (fun _ _ _ h => h) (Or.inl ⟨rfl, ?ybU2_6⟩) (by assumption) ?_
            case ybU2_6 => (intro w hSw; (try dsimp only at hSw); go_simp; first | done | with_reducible rfl)
            simp only [List.getElem_toArray, List.getElem_cons_succ, List.getElem_cons_zero, Act.put, List.setIfInBounds_toArray, List.set_cons_zero, List.set_cons_succ]
            refine wpAnyH_take (i := 7) (v := ?vbU2_7) rfl (by kernel_rfl) (by kernel_rfl) (by kernel_rfl) (fun _ _ _ h => h) (Or.inl ⟨rfl, ?ybU2_7⟩) (by assumption) ?_
            case ybU2_7 => (intro w hSw; (try dsimp only at hSw); go_simp; first | done | with_reducible rfl)
            simp only [List.getElem_toArray, List.getElem_cons_succ, List.getElem_cons_zero, Act.put, List.setIfInBounds_toArray, List.set_cons_zero, List.set_cons_succ]
            refine wpAnyH_take (i := 8) (v := ?vbU2_8) rfl (by kernel_rfl) (by kernel_rfl) (by kernel_rfl) (fun _ _ _ h => h) (Or.inl ⟨rfl, ?ybU2_8⟩) (by assumption) ?_
            case ybU2_8 => (intro w hSw; (try dsimp only at hSw); go_simp; first | done | with_reducible rfl)
            simp only [List.getElem_toArray, List.getElem_cons_succ, List.getElem_cons_zero, Act.put, List.setIfInBounds_toArray, List.set_cons_zero, List.set_cons_succ]
            refine wpAnyH_take (i := 9) (v := ?vbU2_9) rfl (by kernel_rfl) (by kernel_rfl) (by kernel_rfl) (fun _ _ _ h => h) (Or.inl ⟨rfl, ?ybU2_9⟩) (by assumption) ?_
            case ybU2_9 => (intro w hSw; (try dsimp only at hSw); go_simp; first | done | with_reducible rfl)
            simp only [List.getElem_toArray, List.getElem_cons_succ, List.getElem_cons_zero, Act.put, List.setIfInBounds_toArray, List.set_cons_zero, List.set_cons_succ]
            refine wpAnyH_take (i := 10) (v := ?vbU2_10) rfl (by kernel_rfl) (by kernel_rfl) (by kernel_rfl) (fun _ _ _ h => h) (Or.inl ⟨rfl, ?ybU2_10⟩) (by assumption) ?_
            case ybU2_10 => (intro w hSw; (try dsimp only at hSw); go_simp; first | done | with_reducible rfl)
            simp only [List.getElem_toArray, List.getElem_cons_succ, List.getElem_cons_zero, Act.put, List.setIfInBounds_toArray, List.set_cons_zero, List.set_cons_succ]
            refine wpAnyH_take (i := 11) (v := ?vbU2_11) rfl (by kernel_rfl) (by kernel_rfl) (by kernel_rfl) (fun _ _ _ h => h) (Or.inl ⟨rfl, ?ybU2_11⟩) (by assumption) ?_
            case ybU2_11 => (intro w hSw; (try dsimp only at hSw); go_simp; first | done | with_reducible rfl)
            simp only [List.getElem_toArray, List.getElem_cons_succ, List.getElem_cons_zero, Act.put, List.setIfInBounds_toArray, List.set_cons_zero, List.set_cons_succ]
            refine wpAnyH_take (i := 12) (v := ?vbU2_12) rfl (by kernel_rfl) (by kernel_rfl) (by kernel_rfl) (fun _ _ _ h => h) (Or.inl ⟨rfl, ?ybU2_12⟩) (by assumption) ?_
            case ybU2_12 => (intro w hSw; (try dsimp only at hSw); go_simp; first | done | with_reducible rfl)
            simp only [List.getElem_toArray, List.getElem_cons_succ, List.getElem_cons_zero, Act.put, List.setIfInBounds_toArray, List.set_cons_zero, List.set_cons_succ]
            refine wpAnyH_take (i := 13) (v := ?vbU2_13) rfl (by kernel_rfl) (by kernel_rfl) (by kernel_rfl) (fun _ _ _ h => h) (Or.inl ⟨rfl, ?ybU2_13⟩) (by assumption) ?_
            case ybU2_13 => (intro w hSw; (try dsimp only at hSw); go_simp; first | done | with_reducible rfl)
            simp only [List.getElem_toArray, List.getElem_cons_succ, List.getElem_cons_zero, Act.put, List.setIfInBounds_toArray, List.set_cons_zero, List.set_cons_succ]
            refine wpAnyH_ready (rs := [14]) (by kernel_rfl) (by simp) ?_
            refine AllReadyH.cons rfl (fun K hK => ?_) AllReadyH.nil
            go_simp
            refine (hadd.out w5 hM1' hM2' (by omega)).mono ?_
            rintro e w6 ⟨rfl, hb6, hk6, hm6⟩
            have hO6 := (hk6 _ (own_lt hO5) (by omega) (by omega)).trans hO5
            go_wp2_with fail
            refine hK.out _ _ ?_ (fun hHeld => ?_)
            · exact ⟨hHeld.1.trans hb6, (hk6 _ (own_lt hHeld.2.1) (by omega) (by omega)).trans hHeld.2.1, cell_heap12 hHeld.2.2.1 (hk6 _ (by omega) (by omega) (by omega)), cell_heap12 hHeld.2.2.2.1 (hk6 _ (by omega) (by omega) (by omega)), cell_heap12 hHeld.2.2.2.2.1 (hk6 _ (by omega) (by omega) (by omega)), cell_heap12 hHeld.2.2.2.2.2.1 (hk6 _ (by omega) (by omega) (by omega)), cell_heap12 hHeld.2.2.2.2.2.2 (hk6 _ (by omega) (by omega) (by omega))⟩
            clear hK K
            try simp only [List.getElem_toArray, List.getElem_cons_succ, List.getElem_cons_zero, Act.put, List.setIfInBounds_toArray, List.set_cons_zero, List.set_cons_succ]
            refine wpAnyH_take (i := 15) (v := ?vbU2_15) rfl (by kernel_rfl) (by kernel_rfl) (by kernel_rfl) (fun _ _ _ h => h) (Or.inl ⟨rfl, ?ybU2_15⟩) (by assumption) ?_
            case ybU2_15 => (intro w hSw; (try dsimp only at hSw); go_simp; first | done | with_reducible rfl)
            simp only [List.getElem_toArray, List.getElem_cons_succ, List.getElem_cons_zero, Act.put, List.setIfInBounds_toArray, List.set_cons_zero, List.set_cons_succ]
            refine wpAnyH_take (i := 16) (v := ?vbU2_16) rfl (by kernel_rfl) (by kernel_rfl) (by kernel_rfl) (fun _ _ _ h => h) (Or.inl ⟨rfl, ?ybU2_16⟩) (by assumption) ?_
            case ybU2_16 => (intro w hSw; (try dsimp only at hSw); go_simp; first | done | with_reducible rfl)
            simp only [List.getElem_toArray, List.getElem_cons_succ, List.getElem_cons_zero, Act.put, List.setIfInBounds_toArray, List.set_cons_zero, List.set_cons_succ]
            refine wpAnyH_done (by kernel_rfl) ?_ _
            have hR' := hHeld.2.1
            have hbf := hHeld.1
            clear hHeld hcX0 hcX1 hcX2 ho0 ho1 hbA hRA hM1 hM2 hm6
            have L0 := own_cell hR' (o := 0) rfl
            have L1 := own_cell hR' (o := 1) rfl
            have F0 := own_frozen hR' 0
            have F1 := own_frozen hR' 1
            have hlR := own_lt hR'
            go_wp2
            have hZ := set_block12 (i := 1) (v := .map none) (set_block12 (i := 0) (v := .map none) hR')
            simp only [List.setIfInBounds_toArray, List.set_cons_zero, List.set_cons_succ] at hZ
            have hbz : Below w.heap.size w ((w6.setCell ⟨w.heap.size, 0, none⟩ (.map none)).setCell ⟨w.heap.size, 1, none⟩ (.map none)) := (hbf.setCell (Nat.le_refl _) _).setCell (Nat.le_refl _) _
            generalize (w6.setCell ⟨w.heap.size, 0, none⟩ (.map none)).setCell ⟨w.heap.size, 1, none⟩ (.map none) = wz at *
            have hlz := own_lt hZ
            have z0 := own_cell hZ (o := 0) rfl
            have z1 := own_cell hZ (o := 1) rfl
            refine bodyPost_ret (v := .tuple #[.agg #[.map none, .map none], .bool false]) (by simp [results, Try.results54, go_sem, z0, z1, hlz]) rfl ?_
            exact ⟨hbz, .inl ⟨hr.out, rfl⟩⟩
          | true =>
            have hok' : Hid (okFrom [] ps = okFrom (ps.take (k + 1)) (ps.drop (k + 1))) := Lib.hid (by rw [hst2.out, Bool.true_and])
            go_wp2_with fail
            refine wp_region_held_drew (S := fun w' => Below w.heap.size w w' ∧ w'.heap[w.heap.size]? = some (.cells #[.map none, .map none] 74) ∧ w'.cell? ⟨wr.heap.size, 0, none⟩ = some (.string x.under) ∧ w'.cell? ⟨wr.heap.size, 1, none⟩ = some (.string x.top) ∧ w'.cell? ⟨wr.heap.size, 2, none⟩ = some (.string x.seen) ∧ w'.cell? ⟨w.heap.size + 1 + 1 + 1, 0, none⟩ = some (.map (some (w.heap.size + 1))) ∧ w'.cell? ⟨w.heap.size + 1 + 1 + 1, 1, none⟩ = some (.map (some (w.heap.size + 1 + 1)))) (by kernel_rfl) ?_ (fun hHeld => ?_)
            · exact ⟨hbA, hRA, hcX0, hcX1, hcX2, ho0, ho1⟩
            refine wpAnyH_take (i := 0) (v := ?vcU3_0) rfl (by kernel_rfl) (by kernel_rfl) (by kernel_rfl) (fun _ _ _ h => h) (Or.inl ⟨rfl, ?ycU3_0⟩) (by assumption) ?_
            case ycU3_0 => (intro w hSw; (try dsimp only at hSw); go_simp; first | done | with_reducible rfl)
            simp only [List.getElem_toArray, List.getElem_cons_succ, List.getElem_cons_zero, Act.put, List.setIfInBounds_toArray, List.set_cons_zero, List.set_cons_succ]
            refine wpAnyH_ready (rs := [1]) (by kernel_rfl) (by simp) ?_
            refine AllReadyH.cons rfl (fun K hK => ?_) AllReadyH.nil
            go_simp
            refine (hc1.out _).mono ?_
            rintro e w5 ⟨rfl, hb5⟩
            have hbx : Below wr.heap.size wr w5 := ((below_a1 wr _).drew).step hb5
            have hM1' := hM1.below hbx hM1.lt
            have hM2' := hM2.below hbx hM2.lt
            have hz5 : wr.heap.size + 1 ≤ w5.heap.size := by have := hb5.size; simpa using this
            have hO5 := (hb5.block _ (own_lt hOA)).trans hOA
            go_wp2_with fail
            refine hK.out _ _ ?_ (fun hHeld => ?_)
            · exact ⟨hHeld.1.step hb5, (hb5.block _ (own_lt hHeld.2.1)).trans hHeld.2.1, cell_step hHeld.2.2.1 hb5, cell_step hHeld.2.2.2.1 hb5, cell_step hHeld.2.2.2.2.1 hb5, cell_step hHeld.2.2.2.2.2.1 hb5, cell_step hHeld.2.2.2.2.2.2 hb5⟩
            clear hK K
            try simp only [List.getElem_toArray, List.getElem_cons_succ, List.getElem_cons_zero, Act.put, List.setIfInBounds_toArray, List.set_cons_zero, List.set_cons_succ]
            refine wpAnyH_take (i := 2) (v := ?vcU3_2) rfl (by kernel_rfl) (by kernel_rfl) (by kernel_rfl) (fun _ _ _ h => h) (Or.inl ⟨rfl, ?ycU3_2⟩) (by assumption) ?_
            case ycU3_2 => (intro w hSw; (try dsimp only at hSw); go_simp; first | done | with_reducible rfl)
            simp only [List.getElem_toArray, List.getElem_cons_succ, List.getElem_cons_zero, Act.put, List.setIfInBounds_toArray, List.set_cons_zero, List.set_cons_succ]
            refine wpAnyH_take (i := 3) (v := ?vcU3_3) rfl (by kernel_rfl) (by kernel_rfl) (by kernel_rfl) (fun _ _ _ h => h) (Or.inl ⟨rfl, ?ycU3_3⟩) (by assumption) ?_
            case ycU3_3 => (intro w hSw; (try dsimp only at hSw); go_simp; first | done | with_reducible rfl)
            simp only [List.getElem_toArray, List.getElem_cons_succ, List.getElem_cons_zero, Act.put, List.setIfInBounds_toArray, List.set_cons_zero, List.set_cons_succ]
            refine wpAnyH_take (i := 4) (v := ?vcU3_4) rfl (by kernel_rfl) (by kernel_rfl) (by kernel_rfl) (fun _ _ _ h => h) (Or.inl ⟨rfl, ?ycU3_4⟩) (by assumption) ?_
            case ycU3_4 => (intro w hSw; (try dsimp only at hSw); go_simp; first | done | with_reducible rfl)
            simp only [List.getElem_toArray, List.getElem_cons_succ, List.getElem_cons_zero, Act.put, List.setIfInBounds_toArray, List.set_cons_zero, List.set_cons_succ]
            refine wpAnyH_take (i := 5) (v := ?vcU3_5) rfl (by kernel_rfl) (by kernel_rfl) (by kernel_rfl) (fun _ _ _ h => h) (Or.inl ⟨rfl, ?ycU3_5⟩) (by assumption) ?_
            case ycU3_5 => (intro w hSw; (try dsimp only at hSw); go_simp; first | done | with_reducible rfl)
            simp only [List.getElem_toArray, List.getElem_cons_succ, List.getElem_cons_zero, Act.put, List.setIfInBounds_toArray, List.set_cons_zero, List.set_cons_succ]
            refine wpAnyH_take (i := 6) (v := ?vcU3_6) rfl (by kernel_rfl) (by kernel_rfl) (by kernel_rfl) (fun _ _ _ h => h) (Or.inl ⟨rfl, ?ycU3_6⟩) (by assumption) ?_
            case ycU3_6 => (intro w hSw; (try dsimp only at hSw); go_simp; first | done | with_reducible rfl)
            simp only [List.getElem_toArray, List.getElem_cons_succ, List.getElem_cons_zero, Act.put, List.setIfInBounds_toArray, List.set_cons_zero, List.set_cons_succ]
            refine wpAnyH_take (i := 7) (v := ?vcU3_7) rfl (by kernel_rfl) (by kernel_rfl) (by kernel_rfl) (fun _ _ _ h => h) (Or.inl ⟨rfl, ?ycU3_7⟩) (by assumption) ?_
            case ycU3_7 => (intro w hSw; (try dsimp only at hSw); go_simp; first | done | with_reducible rfl)
            simp only [List.getElem_toArray, List.getElem_cons_succ, List.getElem_cons_zero, Act.put, List.setIfInBounds_toArray, List.set_cons_zero, List.set_cons_succ]
            refine wpAnyH_take (i := 8) (v := ?vcU3_8) rfl (by kernel_rfl) (by kernel_rfl) (by kernel_rfl) (fun _ _ _ h => h) (Or.inl ⟨rfl, ?ycU3_8⟩) (by assumption) ?_
            case ycU3_8 => (intro w hSw; (try dsimp only at hSw); go_simp; first | done | with_reducible rfl)
            simp only [List.getElem_toArray, List.getElem_cons_succ, List.getElem_cons_zero, Act.put, List.setIfInBounds_toArray, List.set_cons_zero, List.set_cons_succ]
            refine wpAnyH_take (i := 9) (v := ?vcU3_9) rfl (by kernel_rfl) (by kernel_rfl) (by kernel_rfl) (fun _ _ _ h => h) (Or.inl ⟨rfl, ?ycU3_9⟩) (by assumption) ?_
            case ycU3_9 => (intro w hSw; (try dsimp only at hSw); go_simp; first | done | with_reducible rfl)
            simp only [List.getElem_toArray, List.getElem_cons_succ, List.getElem_cons_zero, Act.put, List.setIfInBounds_toArray, List.set_cons_zero, List.set_cons_succ]
            refine wpAnyH_take (i := 10) (v := ?vcU3_10) rfl (by kernel_rfl) (by kernel_rfl) (by kernel_rfl) (fun _ _ _ h => h) (Or.inl ⟨rfl, ?ycU3_10⟩) (by assumption) ?_
            case ycU3_10 => (intro w hSw; (try dsimp only at hSw); go_simp; first | done | with_reducible rfl)
            simp only [List.getElem_toArray, List.getElem_cons_succ, List.getElem_cons_zero, Act.put, List.setIfInBounds_toArray, List.set_cons_zero, List.set_cons_succ]
            refine wpAnyH_take (i := 11) (v := ?vcU3_11) rfl (by kernel_rfl) (by kernel_rfl) (by kernel_rfl) (fun _ _ _ h => h) (Or.inl ⟨rfl, ?ycU3_11⟩) (by assumption) ?_
            case ycU3_11 => (intro w hSw; (try dsimp only at hSw); go_simp; first | done | with_reducible rfl)
            simp only [List.getElem_toArray, List.getElem_cons_succ, List.getElem_cons_zero, Act.put, List.setIfInBounds_toArray, List.set_cons_zero, List.set_cons_succ]
            refine wpAnyH_take (i := 12) (v := ?vcU3_12) rfl (by kernel_rfl) (by kernel_rfl) (by kernel_rfl) (fun _ _ _ h => h) (Or.inl ⟨rfl, ?ycU3_12⟩) (by assumption) ?_
            case ycU3_12 => (intro w hSw; (try dsimp only at hSw); go_simp; first | done | with_reducible rfl)
            simp only [List.getElem_toArray, List.getElem_cons_succ, List.getElem_cons_zero, Act.put, List.setIfInBounds_toArray, List.set_cons_zero, List.set_cons_succ]
            refine wpAnyH_take (i := 13) (v := ?vcU3_13) rfl (by kernel_rfl) (by kernel_rfl) (by kernel_rfl) (fun _ _ _ h => h) (Or.inl ⟨rfl, ?ycU3_13⟩) (by assumption) ?_
            case ycU3_13 => (intro w hSw; (try dsimp only at hSw); go_simp; first | done | with_reducible rfl)
            simp only [List.getElem_toArray, List.getElem_cons_succ, List.getElem_cons_zero, Act.put, List.setIfInBounds_toArray, List.set_cons_zero, List.set_cons_succ]
            refine wpAnyH_ready (rs := [14]) (by kernel_rfl) (by simp) ?_
            refine AllReadyH.cons rfl (fun K hK => ?_) AllReadyH.nil
            go_simp
            refine (hadd.out w5 hM1' hM2' (by omega)).mono ?_
            rintro e w6 ⟨rfl, hb6, hk6, hm6⟩
            have hO6 := (hk6 _ (own_lt hO5) (by omega) (by omega)).trans hO5
            go_wp2_with fail
            refine hK.out _ _ ?_ (fun hHeld => ?_)
            · exact ⟨hHeld.1.trans hb6, (hk6 _ (own_lt hHeld.2.1) (by omega) (by omega)).trans hHeld.2.1, cell_heap12 hHeld.2.2.1 (hk6 _ (by omega) (by omega) (by omega)), cell_heap12 hHeld.2.2.2.1 (hk6 _ (by omega) (by omega) (by omega)), cell_heap12 hHeld.2.2.2.2.1 (hk6 _ (by omega) (by omega) (by omega)), cell_heap12 hHeld.2.2.2.2.2.1 (hk6 _ (by omega) (by omega) (by omega)), cell_heap12 hHeld.2.2.2.2.2.2 (hk6 _ (by omega) (by omega) (by omega))⟩
            clear hK K
            try simp only [List.getElem_toArray, List.getElem_cons_succ, List.getElem_cons_zero, Act.put, List.setIfInBounds_toArray, List.set_cons_zero, List.set_cons_succ]
            refine wpAnyH_take (i := 15) (v := ?vcU3_15) rfl (by kernel_rfl) (by kernel_rfl) (by kernel_rfl) (fun _ _ _ h => h) (Or.inl ⟨rfl, ?ycU3_15⟩) (by assumption) ?_
            case ycU3_15 => (intro w hSw; (try dsimp only at hSw); go_simp; first | done | with_reducible rfl)
            simp only [List.getElem_toArray, List.getElem_cons_succ, List.getElem_cons_zero, Act.put, List.setIfInBounds_toArray, List.set_cons_zero, List.set_cons_succ]
            refine wpAnyH_take (i := 16) (v := ?vcU3_16) rfl (by kernel_rfl) (by kernel_rfl) (by kernel_rfl) (fun _ _ _ h => h) (Or.inl ⟨rfl, ?ycU3_16⟩) (by assumption) ?_
            case ycU3_16 => (intro w hSw; (try dsimp only at hSw); go_simp; first | done | with_reducible rfl)
            simp only [List.getElem_toArray, List.getElem_cons_succ, List.getElem_cons_zero, Act.put, List.setIfInBounds_toArray, List.set_cons_zero, List.set_cons_succ]
            refine wpAnyH_done (by kernel_rfl) ?_ _
            obtain ⟨hn1, hn2⟩ := hm6 trivial
            have hfin := Lib.hid (And.intro hHeld.2.1 (And.intro hO6 (And.intro hn1 (And.intro hn2 hHeld.1))))
            clear hHeld hcX0 hcX1 hcX2 ho0 ho1 hbA hRA hM1 hM2 hm6 hn1 hn2 hO6
            go_wp2
            go_roundw
            case rel => exact ⟨k + 1, by omega, by go_num, hok'.out, hone'.out, hfin.out⟩
            case measure => simp [intOf]; omega
      · obtain rfl : k = n := by omega
        have hr : Hid (v = true) := Lib.hid (by rw [hv2.out, hok.out, okFrom_end (by rw [hl.out]; exact Nat.le_refl _)])
        have hps : ps.take k = ps := List.take_of_length_le (by rw [hl.out]; exact Nat.le_refl _)
        rw [hps] at hM1 hM2
        have L0 := own_cell hR (o := 0) rfl
        have L1 := own_cell hR (o := 1) rfl
        have F0 := own_frozen hR 0
        have F1 := own_frozen hR 1
        have c0 := own_cell hO (o := 0) rfl
        have c1 := own_cell hO (o := 1) rfl
        have hlR := own_lt hR
        have hlO := own_lt hO
        have hZ := set_block12 (i := 1) (v := .map (some (w.heap.size + 1 + 1))) (set_block12 (i := 0) (v := .map (some (w.heap.size + 1))) hR)
        simp only [List.setIfInBounds_toArray, List.set_cons_zero, List.set_cons_succ] at hZ
        have hM1' : Hid (MapIs bpV ((wr.setCell ⟨w.heap.size, 0, none⟩ (.map (some (w.heap.size + 1)))).setCell ⟨w.heap.size, 1, none⟩ (.map (some (w.heap.size + 1 + 1)))) (w.heap.size + 1) (seenE ps)) := Lib.hid (hM1.block (set_else12 (set_else12 rfl (show w.heap.size ≠ w.heap.size + 1 by omega)) (show w.heap.size ≠ w.heap.size + 1 by omega)))
        have hM2' : Hid (MapIs bpV ((wr.setCell ⟨w.heap.size, 0, none⟩ (.map (some (w.heap.size + 1)))).setCell ⟨w.heap.size, 1, none⟩ (.map (some (w.heap.size + 1 + 1)))) (w.heap.size + 1 + 1) (topE ps)) := Lib.hid (hM2.block (set_else12 (set_else12 rfl (show w.heap.size ≠ w.heap.size + 1 + 1 by omega)) (show w.heap.size ≠ w.heap.size + 1 + 1 by omega)))
        have hbz : Below w.heap.size w ((wr.setCell ⟨w.heap.size, 0, none⟩ (.map (some (w.heap.size + 1)))).setCell ⟨w.heap.size, 1, none⟩ (.map (some (w.heap.size + 1 + 1)))) := (hbw.setCell (Nat.le_refl _) _).setCell (Nat.le_refl _) _
        clear hM1 hM2 hR hO
        go_wp2
        generalize (wr.setCell ⟨w.heap.size, 0, none⟩ (.map (some (w.heap.size + 1)))).setCell ⟨w.heap.size, 1, none⟩ (.map (some (w.heap.size + 1 + 1))) = wz at *
        have hlz := own_lt hZ
        have z0 := own_cell hZ (o := 0) rfl
        have z1 := own_cell hZ (o := 1) rfl
        refine bodyPost_ret (v := .tuple #[.agg #[.map (some (w.heap.size + 1)), .map (some (w.heap.size + 1 + 1))], .bool true]) (by simp [results, Try.results54, go_sem, z0, z1, hlz]) rfl ?_
        exact ⟨hbz, .inr ⟨hr.out, _, _, rfl, hM1'.out, hM2'.out⟩⟩
theorem vo12_impl (A : Option Addr) (n c : Nat) (ps : List OverD) (w : World) (h : Overs w A n ps) (hn : n ≤ 1048576) (hg : ∀ x ∈ ps, x.good) :
    Calls Try.prog 18 #[.slice A n c] w fun e w' => e = .returned (.bool (ovB ps)) ∧ Below w.heap.size w w' := by
  have hc := Lib.hid (newov12 A n c ps rfl w h hn hg)
  generalize ovB ps = v at *
  clear h hg
  go_enter Try.func18, Try.ntmps18
  go_wp2_with fail
  refine (hc.out).mono ?_
  rintro e w1 ⟨hb1, ⟨rfl, rfl⟩ | ⟨rfl, r1, r2, rfl, _, _⟩⟩
  · go_wp2
    go_ret
    exact ⟨rfl, hb1.alloc hb1.size _⟩
  · go_wp2
    go_ret
    exact ⟨rfl, hb1.alloc hb1.size _⟩
end Go.Proofs.Ytomnnhmhmehdjaa
