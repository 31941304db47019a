/- The starts of words: the program's, which ranges over an iterator in a loop. -/
import Derived.Test.YtcmmcgjpaabnoaaRf0
import Derived.Test.YtcmmcgjpaabnoaaTs1
import Derived.Test.YtcmmcgjpaabnoaaTm8
import Derived.Test.YtcmmcgjpaabnoaaRf1
import Derived.Deep.MidRow
namespace Go.Proofs.Ytcmmcgjpaabnoaa
open Go.RowKit Go.ChangeShapes Go.WideShapes Go.Deep Go.Shelf
set_option linter.unusedVariables false
set_option linter.unusedSimpArgs false
attribute [local go_sem] Oper.semAt_some

theorem ltF_at (s : ByteArray) : ∀ k, (ltF s k).2 = k ↔ (k = 0 ∨ ¬ (bAt s (k - 1)).toNat = 32)
  | 0 => by simp [ltF]
  | k + 1 => by
    have h := (ltF_le s k).1
    rw [ltF]
    split
    · rename_i h32
      simp only [Nat.add_sub_cancel, h32]
      constructor
      · intro e; omega
      · rintro (e | e)
        · omega
        · exact absurd trivial e
    · rename_i h32
      simp [h32]
/-- Does a letter begin a word? -/
def begL (x : Ltr) : Bool := !decide (x.fr = x.col) || decide (x.col = 0)
def begR (x : Nat × Nat × UInt8) : Bool := !decide (x.1 = x.2.1) || decide (x.2.1 = 0)
theorem beg_raw (s : ByteArray) (c : Nat) : ∀ k, k ≤ s.size → ((ltF s k).1.any fun x => begR x && decide (x.2.1 = c)) = (startQ s c && decide (c < k))
  | 0, _ => by simp [ltF]
  | k + 1, hk => by
    have ih := beg_raw s c k (by omega)
    have ha := ltF_at s k
    rw [ltF]
    by_cases h32 : (bAt s k).toNat = 32
    · rw [if_pos h32, ih]
      by_cases hc : c = k
      · subst hc; simp [startQ, h32]
      · congr 1
        exact decide_eq_decide.2 (by omega)
    · rw [if_neg h32]
      simp only [List.any_append, ih, List.any_cons, List.any_nil, Bool.or_false]
      by_cases hc : c = k
      · subst hc
        have hlt : c < s.size := by omega
        simp only [Nat.lt_irrefl, decide_false, Bool.and_false, Bool.false_or, decide_true, Bool.and_true, Nat.lt_succ_self, startQ, begR, decide_eq_true hlt, decide_eq_false h32, Bool.not_false, Bool.true_and]
        by_cases h0 : c = 0
        · subst h0; simp [ltF]
        · simp only [decide_eq_false h0, Bool.or_false, Bool.false_or]
          by_cases h1 : (bAt s (c - 1)).toNat = 32
          · have : ¬ (ltF s c).2 = c := fun e => by rcases ha.1 e with e1 | e1 <;> contradiction
            simp [h1, this]
          · have : (ltF s c).2 = c := ha.2 (.inr h1)
            simp [h1, this]
      · rw [decide_eq_false (fun e : k = c => hc e.symm), Bool.and_false, Bool.or_false]
        congr 1
        exact decide_eq_decide.2 (by omega)
theorem beg_all {s : ByteArray} {xs : List Ltr} (h : xs.map Ltr.raw = (ltF s s.size).1) (c : Nat) : (xs.any fun x => begL x && decide (x.col = c)) = startQ s c := by
  have h1 := beg_raw s c s.size (Nat.le_refl _)
  rw [← h, List.any_map] at h1
  have h2 : (startQ s c && decide (c < s.size)) = startQ s c := by
    by_cases hc : c < s.size
    · simp [hc]
    · simp [startQ, hc]
  rw [h2] at h1
  rw [← h1]
  rfl
/-- An array of 30 truths. -/
def Truths (b : Nat) (R : Nat → Bool) (W : World) : Prop := W.heap[b]? = some (.cells ((List.range 30).map fun j => Value.bool (R j)).toArray 89)
theorem Truths.set {b c : Nat} {R : Nat → Bool} {W : World} (h : Truths b R W) (hc : c < 30) : Truths b (fun j => R j || decide (j = c)) (W.setCell ⟨b, c, none⟩ (.bool true)) := by
  unfold Truths
  rw [heap_setCell_same W b c _ _ _ h]
  congr 2
  apply Array.ext
  · simp
  · intro i h1 h2
    simp only [List.size_toArray, List.length_map, List.length_range] at h2
    by_cases e : c = i
    · subst e; simp
    · have e2 : ¬ i = c := fun x => e x.symm
      simp [Array.getElem_setIfInBounds, e, e2]
theorem Truths.cell {b c : Nat} {R : Nat → Bool} {W : World} (h : Truths b R W) (hc : c < 30) : W.cell? ⟨b, c, none⟩ = some (.bool (R c)) ∧ W.frozen? ⟨b, c, none⟩ = false ∧ b < W.heap.size := by
  unfold Truths at h
  exact ⟨own_cell h (by simp [hc]), own_frozen h c, own_lt h⟩
theorem lit30 (N : Nat) (T : TypeId) (W : World) (h : W.heap[N]? = some (.cells #[Value.bool false, Value.bool false, Value.bool false, Value.bool false, Value.bool false, Value.bool false, Value.bool false, Value.bool false, Value.bool false, Value.bool false, Value.bool false, Value.bool false, Value.bool false, Value.bool false, Value.bool false, Value.bool false, Value.bool false, Value.bool false, Value.bool false, Value.bool false, Value.bool false, Value.bool false, Value.bool false, Value.bool false, Value.bool false, Value.bool false, Value.bool false, Value.bool false, Value.bool false, Value.bool false] T)) (hT : T = 89) (R : Nat → Bool) (hR : ∀ c, R c = false) : Truths N R W := by
  unfold Truths
  rw [h, hT]
  have e : (fun j => Value.bool (R j)) = fun _ => Value.bool false := by funext j; rw [hR]
  rw [e]
  rfl
def defC (D : Nat) : Deferred := { target := .collected D, args := #[] }
def DefsAt (Ds : List Nat) (W : World) : Prop := ∀ D ∈ Ds, W.heap[D]? = some (.deferred (some []))
theorem defs_own {β : Type} {Ds : List Nat} {W0 : World} (h : DefsAt Ds W0) : OwnFrom W0.heap.size (fun (_ : β) W => DefsAt Ds W) := fun _ X Y row hs hg hr D hD => by
  have h0 := (Array.getElem?_eq_some_iff.1 (h D hD)).1
  have h1 := hs D hD
  exact (hg.block D (Array.getElem?_eq_some_iff.1 h1).1 (fun e => by have := (hr D e.symm).1; omega)).trans h1
theorem DefsAt.others {Ds : List Nat} {W W' : World} (h : DefsAt Ds W) (hk : KeepsOthers W W') : DefsAt Ds W' := fun D hD => hk.same D _ (h D hD) rfl
theorem truths_own {β : Type} (B b : Nat) (f : β → Nat → Bool) : OwnFrom B (fun (s : β) W => Truths b (f s) W) := fun s X Y row hs hg hr => by
  unfold Truths at hs ⊢
  refine (hg.block b (own_lt hs) (fun e => ?_)).trans hs
  obtain ⟨_, o', h3, h4⟩ := hr b e.symm
  rw [hs] at h3
  cases h3
  cases h4
/-- The deferred calls of all loops are taken: there are none. -/
theorem leaves_all {F : Fence} {n : Nat} {P : Program} {fn : Func} {tmps : Array Value} {R : Ending → World → Prop} {u : FrameMode} (hu : u ≠ .run) {B : Nat} : ∀ (Ds : List Nat) (W : World), Ds.Nodup → DefsAt Ds W → (∀ D ∈ Ds, B ≤ D) →
    (∀ W', Below B W W' → (∀ (k : Nat) (o : Obj), W.heap[k]? = some o → o.isCells = true → W'.heap[k]? = some o) → LeavesInM F n P fn tmps R [] u W') → LeavesInM F n P fn tmps R (Ds.map defC) u W
  | [], W, _, _, _, h => h W (Below.refl _ _) (fun _ _ hk _ => hk)
  | D :: Ds, W, hnd, hD, hB, h => by
    have h1 := hD D (by simp)
    have hnd2 := List.nodup_cons.1 hnd
    have hoth : ∀ k, k ≠ D → (W.putObj D (.deferred none)).heap[k]? = W.heap[k]? := fun k hk => World.putObj_heap_other hk
    have hb1 : Below B W (W.putObj D (.deferred none)) := (Below.refl B W).grown (grownBy_putObj' W D _) (by have := (Array.getElem?_eq_some_iff.1 h1).1; have := hB D (by simp); omega) (fun k e => by cases e; exact hB D (by simp))
    refine ⟨hu, .inl ⟨D, _, rfl, run_takeDeferred h1, ?_⟩⟩
    refine leaves_all hu Ds _ hnd2.2 (fun D' hD' => ?_) (fun D' hD' => hB D' (by simp [hD'])) (fun W' hb hk => h W' (hb1.trans hb) (fun k o hko ho => ?_))
    · rw [hoth D' (fun e => hnd2.1 (e ▸ hD'))]
      exact hD D' (by simp [hD'])
    · refine hk k o ?_ ho
      rw [hoth k (fun e => ?_)]
      · exact hko
      · subst e
        rw [h1] at hko
        cases hko
        cases ho
theorem owns_cellsK {w w' : World} {base : Nat} {E : TypeId} {size n : Nat} {v : Value} {xs : List Value} (h : w.ownsRow base E size v n xs) (hk : ∀ (k : Nat) (o : Obj), w.heap[k]? = some o → o.isCells = true → w'.heap[k]? = some o) : w'.ownsRow base E size v n xs := by
  obtain ⟨h1, h2 | ⟨g', cap, cur, h3, h4, h5, h6⟩⟩ := h
  · exact ⟨h1, .inl h2⟩
  · exact ⟨h1, .inr ⟨g', cap, cur, h3, h4, hk _ _ h5 rfl, h6⟩⟩
def colK (R : Nat → Bool) (k : Nat) : List Int := ((List.range' 0 k).filter R).map (fun c : Nat => (c : Int))
theorem wpListIn_load_mid {F : Fence} {m : Nat} {P : Program} {w : World} {ops : Array Oper} {rest : List Oper} {o : Oper} {a : Act} {Q : Exit → Act → World → Prop} (hgd : o.guard = none) (ty : TypeId) (x : Operand) (ho : o.op = .load ty x)
    (cs : Array Value) (p : Option Addr) (hx : a.eval x = .pointer p) (hld : (Instr.loadAt ty (.pointer p)).run P w = .ok (.agg cs) w)
    (hK : wpListIn F m P ops Q rest (a.put o.dst (.agg cs)) w) : wpListIn F m P ops Q (o :: rest) a w := by
  refine wpListIn_plain hgd fun K hK' => ?_
  unfold Oper.wpIn
  refine ⟨?_, ?_⟩
  · simp [Oper.about, ho]
  · rw [Oper.semAt_plain F _ _ (by rw [ho]; intro c hc'; cases hc')]
    simp only [execOp, ho, hx, Sem.run_bind, hld, Result.andThen_ok, Sem.run_pure]
    exact hK' _ _ hK
theorem colK_succ (R : Nat → Bool) (k : Nat) : colK R (k + 1) = colK R k ++ (if R k = true then [(k : Int)] else []) := by
  rw [colK, colK, List.range'_concat, List.filter_append, List.map_append]
  simp only [Nat.zero_add, Nat.one_mul]
  cases h : R k <;> simp [h]
theorem colK_len (R : Nat → Bool) (k : Nat) : (colK R k).length ≤ k := by
  rw [colK, List.length_map]
  exact Nat.le_trans (List.length_filter_le _ _) (by simp)
theorem index30 (R : Nat → Bool) {k : Nat} (h : k < 30) (w : World) : (Instr.index 89 (.agg #[Value.bool (R 0), Value.bool (R 1), Value.bool (R 2), Value.bool (R 3), Value.bool (R 4), Value.bool (R 5), Value.bool (R 6), Value.bool (R 7), Value.bool (R 8), Value.bool (R 9), Value.bool (R 10), Value.bool (R 11), Value.bool (R 12), Value.bool (R 13), Value.bool (R 14), Value.bool (R 15), Value.bool (R 16), Value.bool (R 17), Value.bool (R 18), Value.bool (R 19), Value.bool (R 20), Value.bool (R 21), Value.bool (R 22), Value.bool (R 23), Value.bool (R 24), Value.bool (R 25), Value.bool (R 26), Value.bool (R 27), Value.bool (R 28), Value.bool (R 29)]) (.int .i64 (k : Int))).run Try.prog w = .ok (.bool (R k)) w := by
  rcases (show k = 0 ∨ k = 1 ∨ k = 2 ∨ k = 3 ∨ k = 4 ∨ k = 5 ∨ k = 6 ∨ k = 7 ∨ k = 8 ∨ k = 9 ∨ k = 10 ∨ k = 11 ∨ k = 12 ∨ k = 13 ∨ k = 14 ∨ k = 15 ∨ k = 16 ∨ k = 17 ∨ k = 18 ∨ k = 19 ∨ k = 20 ∨ k = 21 ∨ k = 22 ∨ k = 23 ∨ k = 24 ∨ k = 25 ∨ k = 26 ∨ k = 27 ∨ k = 28 ∨ k = 29 by omega) with rfl | rfl | rfl | rfl | rfl | rfl | rfl | rfl | rfl | rfl | rfl | rfl | rfl | rfl | rfl | rfl | rfl | rfl | rfl | rfl | rfl | rfl | rfl | rfl | rfl | rfl | rfl | rfl | rfl | rfl
  · kernel_rfl
  · kernel_rfl
  · kernel_rfl
  · kernel_rfl
  · kernel_rfl
  · kernel_rfl
  · kernel_rfl
  · kernel_rfl
  · kernel_rfl
  · kernel_rfl
  · kernel_rfl
  · kernel_rfl
  · kernel_rfl
  · kernel_rfl
  · kernel_rfl
  · kernel_rfl
  · kernel_rfl
  · kernel_rfl
  · kernel_rfl
  · kernel_rfl
  · kernel_rfl
  · kernel_rfl
  · kernel_rfl
  · kernel_rfl
  · kernel_rfl
  · kernel_rfl
  · kernel_rfl
  · kernel_rfl
  · kernel_rfl
  · kernel_rfl
theorem list30 (R : Nat → Bool) {k : Nat} (h : k < 30) : [Value.bool (R 0), Value.bool (R 1), Value.bool (R 2), Value.bool (R 3), Value.bool (R 4), Value.bool (R 5), Value.bool (R 6), Value.bool (R 7), Value.bool (R 8), Value.bool (R 9), Value.bool (R 10), Value.bool (R 11), Value.bool (R 12), Value.bool (R 13), Value.bool (R 14), Value.bool (R 15), Value.bool (R 16), Value.bool (R 17), Value.bool (R 18), Value.bool (R 19), Value.bool (R 20), Value.bool (R 21), Value.bool (R 22), Value.bool (R 23), Value.bool (R 24), Value.bool (R 25), Value.bool (R 26), Value.bool (R 27), Value.bool (R 28), Value.bool (R 29)][k]? = some (Value.bool (R k)) := by
  have e : ((List.range 30).map fun j => Value.bool (R j))[k]? = some (Value.bool (R k)) := by simp [h]
  exact e
set_option maxRecDepth 100000 in
set_option maxHeartbeats 3200000 in
theorem stW11 (A : Option Addr) (n c : Nat) (rs : List ByteArray) (w : World) (h : Strs w A n rs) (hn : n ≤ 12) (hg : ∀ x ∈ rs, x.size ≤ maxLen) (hall : rs.all rowB = true) :
    Calls Try.prog 34 #[.slice A n c] w (IOut (colL (fun c => rs.any (fun s => startQ s c)), 0) w) := by
  obtain ⟨i0, hi, hz0, hz1, hz2⟩ := info_parts Try.infoI64
  have hl := Lib.hid h.1
  have hc1 := Lib.hid (checkRows11 A n c rs (q := 0) (by rw [rowsC, if_neg (by rw [hl.out] at *; omega), if_pos hall]) w h (by omega) hg)
  replace hall := Lib.hid hall
  replace hg := Lib.hid hg
  refine (callsIn_wide (n := 9)).1 ?_
  refine callsIn_of_wp_marks Try.func34 rfl trivial ?_ rfl
  simp only [Try.ntmps34, List.size_toArray, List.length_cons, List.length_nil, Nat.reduceAdd, Nat.reduceSub, Array.replicate_succ, Array.replicate_zero, List.push_toArray, List.append_toArray, List.nil_append, List.cons_append]
  gi_wp2_with fail
  refine ⟨trivial, (callsIn_wide.2 hc1.out).mono ?_⟩
  rintro e w1 ⟨rfl, rfl⟩
  gi_wp2_with fail
  refine wpIn_loop (fun a' wr => ∃ (u7 u20 u21 u22 u23 u24 u40 : Value) (r : Nat) (Ds : List Nat), (r ≤ n ∧ Truths w.heap.size (fun c => (rs.take r).any (fun s => startQ s c)) wr ∧ Below w.heap.size w wr ∧ DefsAt Ds wr ∧ Ds.Nodup ∧ ∀ D ∈ Ds, w.heap.size ≤ D) ∧ a' = { tmps := #[.slice A n c, undef, .slice none 0 0, .int .i64 0, .int .i64 0, .pointer (some ⟨w.heap.size, 0, none⟩), undef, u7, undef, undef, undef, undef, .slice A n c, .int .i64 0, .int .i64 0, .bool false, undef, .slice A n c, .int .i64 (n : Int), .int .i64 (r : Int), u20, u21, u22, u23, u24, undef, undef, undef, undef, undef, undef, undef, undef, undef, undef, undef, undef, undef, undef, undef, u40, undef, undef, undef, undef, undef, undef, undef, undef, undef, undef, undef, undef], defers := Ds.map defC }) (fun a' _ => n - (intOf (a'.tmps.getD 19 undef)).toNat) ?_ ?_
  · refine ⟨undef, undef, undef, undef, undef, undef, undef, 0, [], ⟨by omega, ?_, below_a1 _ _, fun D hD => (by cases hD), by simp, fun D hD => (by cases hD)⟩, rfl⟩
    exact lit30 _ _ _ (heap_alloc_new _ _) rfl _ (fun c => by simp)
  · rintro a0 wr ⟨u7, u20, u21, u22, u23, u24, u40, r, Ds, ⟨hr, hT, hbw, hDs, hnd, hDB⟩, rfl⟩
    by_cases hlt : r < n
    · obtain ⟨b, off, x, rfl, hb, hx, c0⟩ := str_at (h.below hbw) hlt
      have hk0 : (0 : Int) ≤ (r : Int) := Int.natCast_nonneg _
      have hk1 : (r : Int) < (n : Int) := by omega
      have hxrow : rowB x = true := by
        have := List.all_eq_true.1 hall.out x (List.mem_of_getElem? hx.out)
        exact this
      have hN0 := (hT.cell (c := 0) (by omega)).2.2
      gi_wp2_with fail
      refine ⟨trivial, (letters_in Fence.wide _ trivial rfl x _).mono ?_⟩
      rintro e w2 ⟨rfl, rfl⟩
      gi_wp2_with fail
      have hD1 := hDs.others (KeepsOthers.alloc wr (.cells #[.string x] 9))
      refine wpIn_rangeFunc_ownH rfl (by omega) (gf := 73) (lb := #[.pointer (some ⟨wr.heap.size, 0, none⟩)]) rfl trivial (enters_of Try.func73 (by kernel_rfl) rfl)
        (letters_stops Fence.wide (9 - 1) trivial rfl (by omega) wr.heap.size x (rowB_size hxrow) (row_asc hxrow) (wr.alloc (.cells #[.string x] 9)) (by simp) (cell_new rfl rfl)) walksK_t walksK_b (Below.refl _ _) (fun _ => rfl)
        (fun pre W => Truths w.heap.size (fun c => (rs.take r).any (fun s => startQ s c) || pre.any (fun y => begL y && decide (y.col = c))) W ∧ Below w.heap.size w W ∧ DefsAt Ds W)
        (fun _ _ _ => False)
        (OwnFrom.and (truths_own _ _ (fun (pre : List Ltr) c => (rs.take r).any (fun s => startQ s c) || pre.any (fun y => begL y && decide (y.col = c)))) (OwnFrom.and (ownFrom_below (Nat.le_refl _) (by simp; have := hbw.size; omega)) (defs_own hD1)))
        (fun _ _ _ _ _ hs _ _ => hs)
        ⟨by have e := (Below.heap_alloc wr (.cells #[.string x] 9) _ hN0).trans hT; simpa [Truths] using e, hbw.alloc hbw.size _, hD1⟩
        (fun y a' W => ∃ Bx, W.heap[Bx]? = some (.cells #[.int .i64 (y.fr : Int), .int .i64 (y.col : Int)] 52) ∧ Bx ≠ w.heap.size ∧ a' = { tmps := #[.slice (some ⟨b, off, none⟩) n c, undef, .slice none 0 0, .int .i64 0, .int .i64 0, .pointer (some ⟨w.heap.size, 0, none⟩), undef, .string x, .pointer (some ⟨Bx, 0, none⟩), undef, undef, undef, .slice (some ⟨b, off, none⟩) n c, .int .i64 0, .int .i64 0, .bool false, undef, .slice (some ⟨b, off, none⟩) n c, .int .i64 (n : Int), .int .i64 (r : Int), .bool true, .pointer (some ⟨b, off + r, none⟩), .string x, .string x, .func (.func 73) #[] #[.pointer (some ⟨wr.heap.size, 0, none⟩)], .agg #[.int .i64 (y.fr : Int), .int .i64 (y.col : Int)], .int .i32 (y.c.toNat : Int), undef, undef, undef, undef, undef, undef, undef, undef, undef, undef, undef, undef, undef, u40, undef, undef, undef, undef, undef, undef, undef, undef, undef, undef, undef, undef], defers := [] })
        (fun y a' _ X Y row hs hg hr => by
          obtain ⟨Bx, h3, h4⟩ := hs
          refine ⟨Bx, (hg.block Bx (Array.getElem?_eq_some_iff.1 h3).1 (fun e => ?_)).trans h3, h4⟩
          obtain ⟨o', h5, h6⟩ := (hr Bx e.symm).2
          rw [h3] at h5
          cases h5
          cases h6)
        ?assign ?body ?done ?stop
      case assign =>
        rintro l pre y W K ⟨hT1, hb1, hd1⟩ hK
        dsimp only [encL]
        gi_wp2
        have hs1 := hb1.size
        have hN1 := (hT1.cell (c := 0) (by omega)).2.2
        refine hK _ _ ((KeepsOthers.alloc _ _).from _) (KeepsOthers.alloc _ _).walks ⟨(Below.heap_alloc W _ _ hN1).trans hT1, hb1.alloc hs1 _, hd1.others (KeepsOthers.alloc _ _)⟩ ⟨W.heap.size, heap_alloc_new _ _, by omega, rfl⟩
      case body =>
        rintro l pre y a' W hlW ⟨rr, hrr⟩ ⟨hT1, hb1, hd1⟩ ⟨Bx, hBx, hBN, rfl⟩ hlt1
        have d0 := own_cell hBx (o := 0) (u := .int .i64 (y.fr : Int)) rfl
        have d1 := own_cell hBx (o := 1) (u := .int .i64 (y.col : Int)) rfl
        have hc30 := y.h2
        have hcol0 : (0 : Int) ≤ (y.col : Int) := Int.natCast_nonneg _
        have hcol1 : (y.col : Int) < 30 := by omega
        obtain ⟨a1, a2, a3⟩ := hT1.cell hc30
        by_cases hfc : y.fr = y.col
        · have g1 : ((y.fr : Int) == (y.col : Int)) = true := beq_iff_eq.2 (by omega)
          have g2 : ((y.fr : Int) != (y.col : Int)) = false := by rw [bne, g1]; rfl
          have g3 : (y.fr == y.col) = true := beq_iff_eq.2 hfc
          have g4 : (y.fr != y.col) = false := by rw [bne, g3]; rfl
          by_cases hc0 : y.col = 0
          · have k1 : ((y.col : Int) == 0) = true := beq_iff_eq.2 (by omega)
            have k2 : (y.col == 0) = true := beq_iff_eq.2 hc0
            have hbe : Hid (begL y = true) := Lib.hid (by simp [begL, hc0])
            replace hfc := Lib.hid hfc
            replace hc0 := Lib.hid hc0
            have hT2 : Hid (Truths w.heap.size (fun c => (rs.take r).any (fun s => startQ s c) || (pre ++ [y]).any (fun y => begL y && decide (y.col = c))) (W.setCell ⟨w.heap.size, y.col, none⟩ (.bool true))) := Lib.hid (by
              have e : (fun c => (rs.take r).any (fun s => startQ s c) || (pre ++ [y]).any (fun y => begL y && decide (y.col = c))) = fun c => ((rs.take r).any (fun s => startQ s c) || pre.any (fun y => begL y && decide (y.col = c))) || decide (c = y.col) := by
                funext c
                simp only [List.any_append, List.any_cons, List.any_nil, hbe.out, Bool.true_and, Bool.or_false, Bool.or_assoc]
                congr 2
                exact decide_eq_decide.2 ⟨Eq.symm, Eq.symm⟩
              rw [e]
              exact hT1.set hc30)
            gi_wp2
            exact ⟨(KeepsOthers.setCell _ _ _).from _, (KeepsOthers.setCell _ _ _).walks, hT2.out, hb1.setCell (p := ⟨w.heap.size, y.col, none⟩) (Nat.le_refl _) _, hd1.others (KeepsOthers.setCell _ _ _)⟩
          · have k1 : ((y.col : Int) == 0) = false := beq_eq_false_iff_ne.2 (by omega)
            have k2 : (y.col == 0) = false := beq_eq_false_iff_ne.2 hc0
            have hbe : Hid (begL y = false) := Lib.hid (by simp [begL, hc0, hfc])
            replace hfc := Lib.hid hfc
            replace hc0 := Lib.hid hc0
            have hT2 : Hid (Truths w.heap.size (fun c => (rs.take r).any (fun s => startQ s c) || (pre ++ [y]).any (fun y => begL y && decide (y.col = c))) W) := Lib.hid (by
              have e : (fun c => (rs.take r).any (fun s => startQ s c) || (pre ++ [y]).any (fun y => begL y && decide (y.col = c))) = fun c => (rs.take r).any (fun s => startQ s c) || pre.any (fun y => begL y && decide (y.col = c)) := by
                funext c
                simp [hbe.out]
              rw [e]
              exact hT1)
            gi_wp2
            exact ⟨KeepsFrom.refl _ _, (KeepsOthers.refl _).walks, hT2.out, hb1, hd1⟩
        · have g1 : ((y.fr : Int) == (y.col : Int)) = false := beq_eq_false_iff_ne.2 (by omega)
          have g2 : ((y.fr : Int) != (y.col : Int)) = true := by rw [bne, g1]; rfl
          have g3 : (y.fr == y.col) = false := beq_eq_false_iff_ne.2 hfc
          have g4 : (y.fr != y.col) = true := by rw [bne, g3]; rfl
          have hbe : Hid (begL y = true) := Lib.hid (by simp [begL, hfc])
          replace hfc := Lib.hid hfc
          have hT2 : Hid (Truths w.heap.size (fun c => (rs.take r).any (fun s => startQ s c) || (pre ++ [y]).any (fun y => begL y && decide (y.col = c))) (W.setCell ⟨w.heap.size, y.col, none⟩ (.bool true))) := Lib.hid (by
            have e : (fun c => (rs.take r).any (fun s => startQ s c) || (pre ++ [y]).any (fun y => begL y && decide (y.col = c))) = fun c => ((rs.take r).any (fun s => startQ s c) || pre.any (fun y => begL y && decide (y.col = c))) || decide (c = y.col) := by
              funext c
              simp only [List.any_append, List.any_cons, List.any_nil, hbe.out, Bool.true_and, Bool.or_false, Bool.or_assoc]
              congr 2
              exact decide_eq_decide.2 ⟨Eq.symm, Eq.symm⟩
            rw [e]
            exact hT1.set hc30)
          gi_wp2
          exact ⟨(KeepsOthers.setCell _ _ _).from _, (KeepsOthers.setCell _ _ _).walks, hT2.out, hb1.setCell (p := ⟨w.heap.size, y.col, none⟩) (Nat.le_refl _) _, hd1.others (KeepsOthers.setCell _ _ _)⟩
      case done =>
        rintro D ys W hD hys ⟨hT1, hb1, hd1⟩ hK
        gi_wp2
        have hT2 : Hid (Truths w.heap.size (fun c => (rs.take (r + 1)).any (fun s => startQ s c)) W) := Lib.hid (by
          have e : (fun c => (rs.take (r + 1)).any (fun s => startQ s c)) = fun c => (rs.take r).any (fun s => startQ s c) || ys.any (fun y => begL y && decide (y.col = c)) := by
            funext c
            rw [take8 hx.out, List.any_append, beg_all hys c]
            simp
          rw [e]
          exact hT1)
        have hDf : Hid (DefsAt (D :: Ds) W) := Lib.hid (fun D' hD' => by
          rcases List.mem_cons.1 hD' with rfl | h1
          · exact hK
          · exact hd1 D' h1)
        have hsD : wr.heap.size < D := by simp at hD; omega
        have hndf : Hid ((D :: Ds).Nodup) := Lib.hid (List.nodup_cons.2 ⟨fun hm => by
          have := (Array.getElem?_eq_some_iff.1 (hDs D hm)).1
          omega, hnd⟩)
        refine ⟨⟨.string x, .bool true, .pointer (some ⟨b, off + r, none⟩), .string x, .string x, .func (.func 73) #[] #[.pointer (some ⟨wr.heap.size, 0, none⟩)], .int .i64 ((r : Int) + 1), r + 1, D :: Ds, ⟨by omega, hT2.out, hb1, hDf.out, hndf.out, fun D' hD' => ?_⟩, ?_⟩, ?_⟩
        · rcases List.mem_cons.1 hD' with rfl | h1
          · have := hbw.size; omega
          · exact hDB D' h1
        · rw [show ((r + 1 : Nat) : Int) = (r : Int) + 1 by omega]
          rfl
        · simp [intOf]
          omega
      case stop =>
        rintro D c pre W _ _ h _
        exact h.elim
    · obtain rfl : r = n := by omega
      have hall2 : (fun c => (rs.take r).any (fun s => startQ s c)) = fun c => rs.any (fun s => startQ s c) := by rw [← hl.out, List.take_length]
      rw [hall2] at hT
      obtain ⟨R, hR⟩ : ∃ R : Nat → Bool, (fun c => rs.any (fun s => startQ s c)) = R := ⟨_, rfl⟩
      rw [hR] at hT
      have hld : (Instr.loadAt 89 (.pointer (some ⟨w.heap.size, 0, none⟩))).run Try.prog wr = .ok (.agg #[.bool (R 0), .bool (R 1), .bool (R 2), .bool (R 3), .bool (R 4), .bool (R 5), .bool (R 6), .bool (R 7), .bool (R 8), .bool (R 9), .bool (R 10), .bool (R 11), .bool (R 12), .bool (R 13), .bool (R 14), .bool (R 15), .bool (R 16), .bool (R 17), .bool (R 18), .bool (R 19), .bool (R 20), .bool (R 21), .bool (R 22), .bool (R 23), .bool (R 24), .bool (R 25), .bool (R 26), .bool (R 27), .bool (R 28), .bool (R 29)]) wr :=
        run_loadAt_mid wr w.heap.size 0 89 [.bool (R 0), .bool (R 1), .bool (R 2), .bool (R 3), .bool (R 4), .bool (R 5), .bool (R 6), .bool (R 7), .bool (R 8), .bool (R 9), .bool (R 10), .bool (R 11), .bool (R 12), .bool (R 13), .bool (R 14), .bool (R 15), .bool (R 16), .bool (R 17), .bool (R 18), .bool (R 19), .bool (R 20), .bool (R 21), .bool (R 22), .bool (R 23), .bool (R 24), .bool (R 25), .bool (R 26), .bool (R 27), .bool (R 28), .bool (R 29)] _ (fun j v hv => by
          have hj : j < 30 := (List.getElem?_eq_some_iff.1 hv).1
          rw [list30 R hj] at hv
          cases hv
          rw [Nat.zero_add]
          exact (hT.cell hj).1) Try.underlying89 rfl (by kernel_rfl)
      replace hld := Lib.hid hld
      have hN0 := (hT.cell (c := 0) (by omega)).2.2
      replace hT := Lib.hid hT
      replace hR := Lib.hid hR
      clear hall2
      gi_wp2_with (refine wpListIn_load_mid rfl 89 (.tmp 5) rfl #[.bool (R 0), .bool (R 1), .bool (R 2), .bool (R 3), .bool (R 4), .bool (R 5), .bool (R 6), .bool (R 7), .bool (R 8), .bool (R 9), .bool (R 10), .bool (R 11), .bool (R 12), .bool (R 13), .bool (R 14), .bool (R 15), .bool (R 16), .bool (R 17), .bool (R 18), .bool (R 19), .bool (R 20), .bool (R 21), .bool (R 22), .bool (R 23), .bool (R 24), .bool (R 25), .bool (R 26), .bool (R 27), .bool (R 28), .bool (R 29)] (some ⟨w.heap.size, 0, none⟩) rfl hld.out ?_)
      gi_loopw [9, 42] (fun v i wq => ∃ k : Nat, k ≤ 30 ∧ i = .int .i64 (k : Int) ∧ wq.ownsRow w.heap.size 2 1 v (colK R k).length ((colK R k).flatMap intC) ∧ Below w.heap.size w wq ∧ DefsAt Ds wq) (fun _ i _ => 30 - (intOf i).toNat)
      case atStart => exact ⟨0, by omega, rfl, World.ownsRow_nil _ _ _ _, hbw, hDs⟩
      case round =>
        rename World => wq
        obtain ⟨k, hk, rfl, hrow, hbq, hdq⟩ := hrel
        by_cases hk30 : k < 30
        · have hidx := index30 R hk30
          have hk0 : (0 : Int) ≤ (k : Int) := Int.natCast_nonneg _
          have hk1 : (k : Int) < 30 := by omega
          cases hRk : R k with
          | false =>
            rw [hRk] at hidx
            have hn2 : Hid (colK R (k + 1) = colK R k) := Lib.hid (by rw [colK_succ, hRk]; simp)
            replace hRk := Lib.hid hRk
            gi_wp2
            go_roundw
            case rel => exact ⟨k + 1, by omega, by go_num, by rw [hn2.out]; exact hrow, hbq, hdq⟩
            case measure => simp [intOf]; omega
          | true =>
            rw [hRk] at hidx
            have hn2 : Hid (colK R (k + 1) = colK R k ++ [(k : Int)]) := Lib.hid (by rw [colK_succ, hRk]; simp)
            have hlen := colK_len R k
            replace hRk := Lib.hid hRk
            have hrl := Lib.hid hrow
            have hsq := hbq.size
            clear hrow
            gi_wp2_with (gi_at_builtin; refine wpListIn_append_own _ rfl _ _ 22 rfl w.heap.size 2 i0 _ 1 8 Try.underlying22 hi hz0 hz1 hz2 rfl (by decide) _ _ _ rfl (hrl.out.alloc _) ⟨wq.heap.size, 0, none⟩ 1 1 [.int .i64 (k : Int)] rfl rfl (news8 _ _ _) (one8 _) (by unfold maxLen; omega) (by omega) (by simp; omega) ?_)
            intro v' w5 hown5 hg5 _
            have hg6 := grown_trans (grown_below (below_a1 wq _) _) hg5
            have hrow5 : Hid (w5.ownsRow w.heap.size 2 1 v' (colK R (k + 1)).length ((colK R (k + 1)).flatMap intC)) := Lib.hid (by rw [hn2.out, snoc8, List.length_append]; exact hown5)
            have hb5 := Lib.hid (hbq.grown hg6 hsq (fun j hj => owns_ge8 hrl.out hj))
            have hd5 := Lib.hid (hdq.others (KeepsOthers.of_grownBy hg6 (fun j o hj ho => by
              obtain ⟨_, h0 | ⟨g', cap, cur, h3, h4, h5, _⟩⟩ := hrl.out
              · rw [h0.1] at hj; cases hj
              · rw [h3] at hj; cases hj; rw [h5] at ho; cases ho; rfl)))
            clear hg5 hg6 hown5 hrl
            gi_wp2
            go_roundw
            case rel => exact ⟨k + 1, by omega, by go_num, hrow5.out, hb5.out, hd5.out⟩
            case measure => simp [intOf]; omega
        · obtain rfl : k = 30 := by omega
          gi_wp2
          refine leaves_all (B := w.heap.size) (by simp) Ds wq hnd hdq hDB (fun W' hb' hk' => ?_)
          have hrow' := owns_cellsK hrow hk'
          have hcol : colK R 30 = colL (fun c => rs.any (fun s => startQ s c)) := by rw [← hR.out]; rfl
          obtain ⟨A5, c5, rfl, hO⟩ := owns_i8 rfl hrow'
          have hlen := colK_len R 30
          refine ⟨.tuple #[.slice A5 (colK R 30).length c5, .int .i64 0], by simp [results, Try.f34, go_sem], A5, (colK R 30).length, c5, rfl, by omega, ?_, hbq.trans hb'⟩
          rw [← hcol]
          exact hO
end Go.Proofs.Ytcmmcgjpaabnoaa
