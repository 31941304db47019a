/- The ways of a page, counted by the program. -/
import Derived.Test.YtijelimpkcnbjaaWm0
import Derived.Test.YtijelimpkcnbjaaRf2
import Derived.Test.YtijelimpkcnbjaaRf0b
namespace Go.Proofs.Ytijelimpkcnbjaa
open Go.RowKit Go.ChangeShapes Go.WideShapes Go.Deep Go.Shelf
set_option linter.unusedVariables false
set_option linter.unusedSimpArgs false
attribute [local go_sem] Oper.semAt_some

/-- The counts behind some letters. -/
def cntL (l : List ((Nat × Nat) × Nat)) (xs : List Ltr) : List ((Nat × Nat) × Nat) := xs.foldl (fun l x => if x.fr = x.col then l else bumpN (x.fr, x.col) l) l
theorem cntL_snoc (l : List ((Nat × Nat) × Nat)) (xs : List Ltr) (x : Ltr) : cntL l (xs ++ [x]) = if x.fr = x.col then cntL l xs else bumpN (x.fr, x.col) (cntL l xs) := by simp [cntL, List.foldl_append]
theorem cwTot (l : List ((Nat × Nat) × Nat)) (k : Nat × Nat) : cntN k l ≤ sumN (fun _ => 1) l := by
  induction l with
  | nil => simp [cntN]
  | cons x r ih =>
    simp only [cntN, sumN, List.map_cons, List.sum_cons, Nat.mul_one] at ih ⊢
    split
    · omega
    · omega
theorem cntL_tot (l : List ((Nat × Nat) × Nat)) : ∀ xs : List Ltr, sumN (fun _ => 1) (cntL l xs) ≤ sumN (fun _ => 1) l + xs.length := fun xs => by
  induction xs generalizing l with
  | nil => simp [cntL]
  | cons x r ih =>
    have h := ih (if x.fr = x.col then l else bumpN (x.fr, x.col) l)
    rw [cntL] at h ⊢
    rw [List.foldl_cons, List.length_cons]
    split at h
    · rename_i h1; rw [if_pos h1]; omega
    · rename_i h1; rw [if_neg h1]; rw [sum_bump] at h; omega
/-- The ways that are counted lie in a row, and each was met. -/
def KeyOk (l : List ((Nat × Nat) × Nat)) : Prop := ∀ x ∈ l, x.1.1 ≤ 30 ∧ x.1.2 ≤ 30 ∧ 1 ≤ x.2
theorem KeyOk.bump {l : List ((Nat × Nat) × Nat)} (h : KeyOk l) {k : Nat × Nat} (h1 : k.1 ≤ 30) (h2 : k.2 ≤ 30) : KeyOk (bumpN k l) := by
  induction l with
  | nil => intro x hx; simp only [bumpN, List.mem_singleton] at hx; subst hx; exact ⟨h1, h2, Nat.le_refl _⟩
  | cons y r ih =>
    have hy := h y (by simp)
    have hr : KeyOk r := fun x hx => h x (by simp [hx])
    intro x hx
    rw [bumpN] at hx
    split at hx
    · rcases List.mem_cons.1 hx with rfl | h3
      · exact ⟨hy.1, hy.2.1, by show 1 ≤ y.2 + 1; omega⟩
      · exact hr x h3
    · rcases List.mem_cons.1 hx with rfl | h3
      · exact hy
      · exact ih hr x h3
theorem KeyOk.letters {l : List ((Nat × Nat) × Nat)} (h : KeyOk l) (xs : List Ltr) : KeyOk (cntL l xs) := by
  induction xs generalizing l with
  | nil => exact h
  | cons x r ih =>
    have h1 := x.h1
    have h2 := x.h2
    have h3 : KeyOk (if x.fr = x.col then l else bumpN (x.fr, x.col) l) := by
      split
      · exact h
      · exact h.bump (by show x.fr ≤ 30; omega) (by show x.col ≤ 30; omega)
    have h4 := ih h3
    rw [cntL] at h4 ⊢
    rw [List.foldl_cons]
    exact h4
theorem KeyOk.few {l : List ((Nat × Nat) × Nat)} (h : KeyOk l) : l.length ≤ sumN (fun _ => 1) l := by
  induction l with
  | nil => simp
  | cons y r ih =>
    have hy := (h y (by simp)).2.2
    have := ih fun x hx => h x (by simp [hx])
    simp only [sumN, List.map_cons, List.sum_cons, List.length_cons, Nat.mul_one] at this ⊢
    omega
theorem sum_one_le {l : List ((Nat × Nat) × Nat)} {x : (Nat × Nat) × Nat} (h : x ∈ l) : x.2 ≤ sumN (fun _ => 1) l := by
  induction l with
  | nil => cases h
  | cons y r ih =>
    simp only [sumN, List.map_cons, List.sum_cons, Nat.mul_one] at ih ⊢
    rcases List.mem_cons.1 h with rfl | h1
    · omega
    · have := ih h1; omega
/-- What a page's letters need, by a measure of ways. -/
def rowSum (f : Nat × Nat → Nat) (s : ByteArray) : Nat := (((ltF s s.size).1.filter fun x => !decide (x.1 = x.2.1)).map fun x => f (x.1, x.2.1)).sum
theorem cntL_sum (f : Nat × Nat → Nat) : ∀ (xs : List Ltr) (l : List ((Nat × Nat) × Nat)), sumN f (cntL l xs) = sumN f l + (((xs.map Ltr.raw).filter fun x => !decide (x.1 = x.2.1)).map fun x => f (x.1, x.2.1)).sum
  | [], l => by simp [cntL]
  | x :: r, l => by
    have h := cntL_sum f r (if x.fr = x.col then l else bumpN (x.fr, x.col) l)
    rw [cntL] at h ⊢
    rw [List.foldl_cons, h]
    by_cases h1 : x.fr = x.col
    · rw [if_pos h1, List.map_cons, List.filter_cons_of_neg (by simp [Ltr.raw, h1])]
    · rw [if_neg h1, sum_bump, List.map_cons, List.filter_cons_of_pos (by simp [Ltr.raw, h1]), List.map_cons, List.sum_cons]
      simp only [Ltr.raw]
      omega
theorem map_own {β : Type} (B b : Nat) (hb : b < B) (f : β → List ((Nat × Nat) × Nat)) : OwnFrom B (fun (s : β) W => MapIs wayV W b (valsN (f s))) := fun s X Y row hs hg hr =>
  hs.block (hg.block b hs.lt (fun e => by have := (hr b e.symm).1; omega))
theorem cells_own {β : Type} (B b : Nat) (cs : Array Value) (T : TypeId) : OwnFrom B (fun (_ : β) W => W.heap[b]? = some (.cells cs T)) := fun s X Y row hs hg hr => by
  refine (hg.block b (own_lt hs) (fun e => ?_)).trans hs
  obtain ⟨_, o', h3, h4⟩ := hr b e.symm
  rw [hs] at h3
  cases h3
  cases h4
/-- The deferred calls of all loops are taken: whatever else lies as it lay. -/
theorem leaves_all2 {F : Fence} {n : Nat} {P : Program} {fn : Func} {tmps : Array Value} {R : Ending → World → Prop} {u : FrameMode} (hu : u ≠ .run) {B : Nat} : ∀ (Ds : List Nat) (W : World), Ds.Nodup → DefsAt Ds W → (∀ D ∈ Ds, B ≤ D) →
    (∀ W', Below B W W' → (∀ (k : Nat) (o : Obj), W.heap[k]? = some o → (∀ d, o ≠ .deferred d) → W'.heap[k]? = some o) → LeavesInM F n P fn tmps R [] u W') → LeavesInM F n P fn tmps R (Ds.map defC) u W
  | [], W, _, _, _, h => h W (Below.refl _ _) (fun _ _ hk _ => hk)
  | D :: Ds, W, hnd, hD, hB, h => by
    have h1 := hD D (by simp)
    have hnd2 := List.nodup_cons.1 hnd
    have hoth : ∀ k, k ≠ D → (W.putObj D (.deferred none)).heap[k]? = W.heap[k]? := fun k hk => World.putObj_heap_other hk
    have hb1 : Below B W (W.putObj D (.deferred none)) := (Below.refl B W).grown (grownBy_putObj' W D _) (by have := (Array.getElem?_eq_some_iff.1 h1).1; have := hB D (by simp); omega) (fun k e => by cases e; exact hB D (by simp))
    refine ⟨hu, .inl ⟨D, _, rfl, run_takeDeferred h1, ?_⟩⟩
    refine leaves_all2 hu Ds _ hnd2.2 (fun D' hD' => ?_) (fun D' hD' => hB D' (by simp [hD'])) (fun W' hb hk => h W' (hb1.trans hb) (fun k o hko ho => ?_))
    · rw [hoth D' (fun e => hnd2.1 (e ▸ hD'))]
      exact hD D' (by simp [hD'])
    · refine hk k o ?_ ho
      rw [hoth k (fun e => ?_)]
      · exact hko
      · subst e
        rw [h1] at hko
        cases hko
        exact absurd rfl (ho _)
set_option maxRecDepth 100000 in
set_option maxHeartbeats 3200000 in
theorem cwW11 (A : Option Addr) (n c : Nat) (rs : List ByteArray) (w : World) (h : Strs w A n rs) (hn : n ≤ 12) (hall : rs.all rowB = true) :
    Calls Try.prog 19 #[.slice A n c] w fun e w' => ∃ bm l, e = .returned (.map (some bm)) ∧ MapIs wayV w' bm (valsN l) ∧ w.heap.size ≤ bm ∧ Below w.heap.size w w' ∧ sumN (fun _ => 1) l ≤ 360 ∧ KeyOk l ∧ ∀ f, sumN f l = (rs.map (rowSum f)).sum := by
  have hmm := @run_makeMap Try.prog
  have hl := Lib.hid h.1
  replace hall := Lib.hid hall
  refine (callsIn_wide (n := 9)).1 ?_
  refine callsIn_of_wp_marks Try.func19 rfl trivial ?_ rfl
  simp only [Try.ntmps19, List.size_toArray, List.length_cons, List.length_nil, Nat.reduceAdd, Nat.reduceSub, Array.replicate_succ, Array.replicate_zero, List.push_toArray, List.append_toArray, List.nil_append, List.cons_append]
  gi_wp2_with fail
  clear hmm
  refine wpIn_loop (fun a' wr => ∃ (u5 u11 u12 u13 u14 u15 u29 : Value) (r : Nat) (Ds : List Nat) (l : List ((Nat × Nat) × Nat)), (r ≤ n ∧ MapIs wayV wr w.heap.size (valsN l) ∧ wr.heap[w.heap.size + 1]? = some (.cells #[.map (some w.heap.size)] 42) ∧ Below w.heap.size w wr ∧ DefsAt Ds wr ∧ Ds.Nodup ∧ (∀ D ∈ Ds, w.heap.size ≤ D) ∧ sumN (fun _ => 1) l ≤ 30 * r ∧ Hid (KeyOk l) ∧ ∀ f, sumN f l = ((rs.take r).map (rowSum f)).sum) ∧ a' = { tmps := #[.slice A n c, undef, .map none, .pointer (some ⟨w.heap.size + 1, 0, none⟩), undef, u5, undef, .map (some w.heap.size), .slice A n c, .int .i64 (n : Int), .int .i64 (r : Int), u11, u12, u13, u14, u15, undef, undef, undef, undef, undef, undef, undef, undef, undef, undef, undef, undef, undef, u29, undef], defers := Ds.map defC }) (fun a' _ => n - (intOf (a'.tmps.getD 10 undef)).toNat) ?_ ?_
  · refine ⟨undef, undef, undef, undef, undef, undef, undef, 0, [], [], ⟨by omega, ?_, ?_, below_a2 _ _ _, fun D hD => (by cases hD), by simp, fun D hD => (by cases hD), by simp [sumN], Lib.hid (fun x hx => by cases hx), fun f => by simp [sumN]⟩, rfl⟩
    · exact (MapIs.made w).below (below_a1 _ _) (by simp)
    · have := heap_alloc_new (w.alloc (.map #[] 0)) (.cells #[.map (some w.heap.size)] 42)
      rw [World.size_alloc] at this
      exact this
  · rintro a0 wr ⟨u5, u11, u12, u13, u14, u15, u29, r, Ds, l, ⟨hr, hM, hC, hbw, hDs, hnd, hDB, htot, hko, hsum⟩, rfl⟩
    replace hsum := Lib.hid hsum
    have hC1 := own_lt hC
    by_cases hlt : r < n
    · obtain ⟨b, off, x, rfl, hb, hx, c0⟩ := str_at (h.below hbw) hlt
      have hk0 : (0 : Int) ≤ (r : Int) := Int.natCast_nonneg _
      have hk1 : (r : Int) < (n : Int) := by omega
      have hxrow : rowB x = true := by
        have := List.all_eq_true.1 hall.out x (List.mem_of_getElem? hx.out)
        exact this
      have hN0 := hM.lt
      gi_wp2_with fail
      refine ⟨trivial, (letters_in Fence.wide _ trivial rfl x _).mono ?_⟩
      rintro e w2 ⟨rfl, rfl⟩
      gi_wp2_with fail
      have hD1 := hDs.others (KeepsOthers.alloc wr (.cells #[.string x] 9))
      have hsz0 : (wr.alloc (.cells #[.string x] 9)).heap.size = wr.heap.size + 1 := by simp
      refine wpIn_rangeFunc_ownH rfl (by omega) (gf := 41) (lb := #[.pointer (some ⟨wr.heap.size, 0, none⟩)]) rfl trivial (enters_of Try.func41 (by kernel_rfl) rfl)
        (letters_stopsB Fence.wide (9 - 1) trivial rfl (by omega) wr.heap.size x (rowB_size hxrow) (row_asc hxrow) (wr.alloc (.cells #[.string x] 9)) (by simp) (cell_new rfl rfl)) walksF_t walksF_b (Below.refl _ _) (fun _ => rfl)
        (fun pre W => MapIs wayV W w.heap.size (valsN (cntL l pre)) ∧ W.heap[w.heap.size + 1]? = some (.cells #[.map (some w.heap.size)] 42) ∧ Below w.heap.size w W ∧ DefsAt Ds W)
        (fun _ _ _ => False)
        (OwnFrom.and (map_own _ _ (by rw [hsz0]; omega) (cntL l)) (OwnFrom.and (cells_own _ _ _ _) (OwnFrom.and (ownFrom_below (Nat.le_refl _) (by simp; have := hbw.size; omega)) (defs_own hD1))))
        (fun _ _ _ _ _ hs _ _ => hs)
        ⟨hM.below (below_a1 _ _) hN0, (Below.heap_alloc wr _ _ hC1).trans hC, hbw.alloc hbw.size _, hD1⟩
        (fun y a' W => ∃ Bx, W.heap[Bx]? = some (.cells #[.int .i64 (y.fr : Int), .int .i64 (y.col : Int)] 48) ∧ a' = { tmps := #[.slice (some ⟨b, off, none⟩) n c, undef, .map none, .pointer (some ⟨w.heap.size + 1, 0, none⟩), undef, .string x, .pointer (some ⟨Bx, 0, none⟩), .map (some w.heap.size), .slice (some ⟨b, off, none⟩) n c, .int .i64 (n : Int), .int .i64 (r : Int), .bool true, .pointer (some ⟨b, off + r, none⟩), .string x, .string x, .func (.func 41) #[] #[.pointer (some ⟨wr.heap.size, 0, none⟩)], .agg #[.int .i64 (y.fr : Int), .int .i64 (y.col : Int)], .int .i32 (y.c.toNat : Int), undef, undef, undef, undef, undef, undef, undef, undef, undef, undef, undef, u29, undef], defers := [] })
        (fun y a' _ X Y row hs hg hr => by
          obtain ⟨Bx, h3, h4⟩ := hs
          refine ⟨Bx, (hg.block Bx (Array.getElem?_eq_some_iff.1 h3).1 (fun e => ?_)).trans h3, h4⟩
          obtain ⟨o', h5, h6⟩ := (hr Bx e.symm).2
          rw [h3] at h5
          cases h5
          cases h6)
        ?assign ?body ?done ?stop
      case assign =>
        rintro l1 pre y W K ⟨hM1, hC2, hb1, hd1⟩ hK
        dsimp only [encL]
        gi_wp2
        have hs1 := hb1.size
        refine hK _ _ ((KeepsOthers.alloc _ _).from _) (WalksFrom.of ((KeepsOthers.alloc _ _).from _)) ⟨hM1.below (below_a1 _ _) hM1.lt, (Below.heap_alloc W _ _ (own_lt hC2)).trans hC2, hb1.alloc hs1 _, hd1.others (KeepsOthers.alloc _ _)⟩ ⟨W.heap.size, heap_alloc_new _ _, rfl⟩
      case body =>
        rintro l1 pre y a' W hlW ⟨rr, hrr⟩ ⟨hM1, hC2, hb1, hd1⟩ ⟨Bx, hBx, rfl⟩ hlt1
        have d0 := own_cell hBx (o := 0) (u := .int .i64 (y.fr : Int)) rfl
        have d1 := own_cell hBx (o := 1) (u := .int .i64 (y.col : Int)) rfl
        have dm := own_cell hC2 (o := 0) (u := .map (some w.heap.size)) rfl
        by_cases hfc : y.fr = y.col
        · have g2 : ((y.fr : Int) != (y.col : Int)) = false := by rw [bne, beq_iff_eq.2 (by omega)]; rfl
          have g4 : (y.fr != y.col) = false := by rw [bne, beq_iff_eq.2 hfc]; rfl
          have hcn : Hid (cntL l (pre ++ [y]) = cntL l pre) := Lib.hid (by rw [cntL_snoc, if_pos hfc])
          replace hfc := Lib.hid hfc
          gi_wp2
          exact ⟨KeepsFrom.refl _ _, WalksFrom.of (KeepsFrom.refl _ _), by rw [hcn.out]; exact hM1, hC2, hb1, hd1⟩
        · have g2 : ((y.fr : Int) != (y.col : Int)) = true := by rw [bne, beq_eq_false_iff_ne.2 (by omega)]; rfl
          have g4 : (y.fr != y.col) = true := by rw [bne, beq_eq_false_iff_ne.2 hfc]; rfl
          have hcn : Hid (cntL l (pre ++ [y]) = bumpN (y.fr, y.col) (cntL l pre)) := Lib.hid (by rw [cntL_snoc, if_neg hfc])
          have hcb : cntN (y.fr, y.col) (cntL l pre) ≤ 1000 := by
            have h3 := cwTot (cntL l pre) (y.fr, y.col)
            have h4 := cntL_tot l pre
            omega
          replace hfc := Lib.hid hfc
          have hMd : MapIs wayV W.drew w.heap.size (valsN (cntL l pre)) := hM1
          obtain ⟨st, w1, hme, hlk, hlk1, hg1, w2, hes, hM2, hg2⟩ := hMd.bump (y.fr, y.col)
          generalize cntN (y.fr, y.col) (cntL l pre) = q at *
          simp only [wayV] at hme hlk hlk1
          have hq0 : (0 : Int) ≤ (q : Int) := Int.natCast_nonneg _
          replace hM2 := Lib.hid hM2
          clear hMd
          have hwr : IntKind.i64.wrap ((q : Int) + 1) = (q : Int) + 1 := IntWalk.i64_in _ (by omega)
          rw [← hwr] at hes
          clear hwr
          gi_wp2
          gi_region
          all_goals gi_wp2
          all_goals exact (by
            have hwB : w.heap.size < (wr.alloc (.cells #[.string x] 9)).heap.size := by rw [hsz0]; omega
            have k1 : KeepsFrom (wr.alloc (.cells #[.string x] 9)).heap.size W w2 := ((KeepsOthers.drew W).from _).trans ((KeepsFrom.of_grownBy hg1 (fun j e => by cases e; exact hwB)).trans (KeepsFrom.of_grownBy hg2 (fun j e => by cases e; exact hwB)))
            have hb0 : Below w.heap.size w W.drew := hb1.drew
            have hb2 : Below w.heap.size w w1 := hb0.grown hg1 hb0.size (fun k e => by cases e; exact Nat.le_refl _)
            have hb3 : Below w.heap.size w w2 := hb2.grown hg2 hb2.size (fun k e => by cases e; exact Nat.le_refl _)
            have hC3 : w2.heap[w.heap.size + 1]? = some (Obj.cells #[Value.map (some w.heap.size)] 42) := by
              have h3 := hg1.block (w.heap.size + 1) (own_lt hC2) (fun e => by have := Option.some.inj e; omega)
              have h4 : w1.heap[w.heap.size + 1]? = some (Obj.cells #[Value.map (some w.heap.size)] 42) := h3.trans hC2
              exact (hg2.block (w.heap.size + 1) (own_lt h4) (fun e => by have := Option.some.inj e; omega)).trans h4
            have hd3 : DefsAt Ds w2 := fun D hD => by
              have h3 := hd1 D hD
              have h0 : D ≠ w.heap.size := fun e => by
                obtain ⟨es, cc, h5, _⟩ := hM1
                rw [e, h5] at h3
                cases h3
              have h4 : w1.heap[D]? = some (Obj.deferred (some [])) := (hg1.block D (Array.getElem?_eq_some_iff.1 h3).1 (fun e => h0 (Option.some.inj e))).trans h3
              exact (hg2.block D (Array.getElem?_eq_some_iff.1 h4).1 (fun e => h0 (Option.some.inj e))).trans h4
            exact ⟨k1, WalksFrom.of k1, by rw [hcn.out]; exact hM2.out, hC3, hb3, hd3⟩)
      case done =>
        rintro D ys W hD hys ⟨hM1, hC2, hb1, hd1⟩ hK
        gi_wp2
        have hDf : Hid (DefsAt (D :: Ds) W) := Lib.hid (fun D' hD' => by
          rcases List.mem_cons.1 hD' with rfl | h1
          · exact hK
          · exact hd1 D' h1)
        have hsD : wr.heap.size < D := by rw [hsz0] at hD; omega
        have hndf : Hid ((D :: Ds).Nodup) := Lib.hid (List.nodup_cons.2 ⟨fun hm => by
          have := (Array.getElem?_eq_some_iff.1 (hDs D hm)).1
          omega, hnd⟩)
        have hys2 := congrArg List.length hys
        rw [List.length_map] at hys2
        have hlen := (ltF_le x x.size).2
        have hx30 := rowB_size hxrow
        have ht := cntL_tot l ys
        refine ⟨⟨.string x, .bool true, .pointer (some ⟨b, off + r, none⟩), .string x, .string x, .func (.func 41) #[] #[.pointer (some ⟨wr.heap.size, 0, none⟩)], .int .i64 ((r : Int) + 1), r + 1, D :: Ds, cntL l ys, ⟨by omega, hM1, hC2, hb1, hDf.out, hndf.out, fun D' hD' => ?_, by omega, Lib.hid (hko.out.letters ys), fun f => ?_⟩, ?_⟩, ?_⟩
        · rcases List.mem_cons.1 hD' with rfl | h1
          · have := hbw.size; omega
          · exact hDB D' h1
        · rw [cntL_sum, hsum.out f, hys, take8 hx.out, List.map_append, List.sum_append]
          simp [rowSum]
        · rw [show ((r + 1 : Nat) : Int) = (r : Int) + 1 by omega]
          rfl
        · simp [intOf]
          omega
      case stop =>
        rintro D c pre W _ _ h _
        exact h.elim
    · obtain rfl : r = n := by omega
      have dm := own_cell hC (o := 0) (u := .map (some w.heap.size)) rfl
      gi_wp2
      refine leaves_all2 (B := w.heap.size) (by simp) Ds wr hnd hDs hDB (fun W' hb' hk' => ?_)
      have hM' : MapIs wayV W' w.heap.size (valsN l) := by
        obtain ⟨es, cc, h5, h6⟩ := hM
        exact ⟨es, cc, hk' _ _ h5 (fun d e => by cases e), h6⟩
      refine ⟨.map (some w.heap.size), by simp [results, Try.f19, go_sem], w.heap.size, l, rfl, hM', Nat.le_refl _, hbw.trans hb', by omega, hko.out, fun f => ?_⟩
      rw [hsum.out f, List.take_of_length_le (by rw [hl.out]; exact Nat.le_refl _)]
end Go.Proofs.Ytijelimpkcnbjaa
