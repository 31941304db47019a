/- Ribbons: the program's ShadesOf. -/
import Derived.Test.YtceedmejmmoepaaRc5
namespace Go.Proofs.Ytceedmejmmoepaa
open Go.RowKit Go.ChangeShapes Go.WideShapes Go.Deep Go.Shelf
set_option linter.unusedVariables false
set_option linter.unusedSimpArgs false
attribute [local go_sem] Oper.semAt_some

theorem inkt14i (s : ByteArray) {v : Bool} (hv : tB14 s = v) (w : World) (hs : s.size ≤ 1048576) :
    Calls Try.prog 45 #[.string s] w fun e w' => e = .returned (.bool v) ∧ w = w' := by
  have hc := Lib.hid (hasBytes_any s 32 126 100 v hv w (by unfold maxLen; omega))
  clear hv
  go_enter Try.func45, Try.ntmps45
  go_wp2_with fail
  refine hc.out.mono ?_
  rintro e w1 ⟨rfl, rfl⟩
  go_wp2
  go_ret
  exact ⟨rfl, rfl⟩
def setL (l : List Int) (xs : List (Nat × Int)) : List Int := xs.foldl (fun l x => l.set x.1 x.2) l
theorem setL_snoc (l : List Int) (xs : List (Nat × Int)) (x : Nat × Int) : setL l (xs ++ [x]) = (setL l xs).set x.1 x.2 := by simp [setL]
theorem setL_ink (r : RibbonD) (d : Nat) (s : ByteArray) (n : Nat) : ∀ k, k ≤ n → setL (List.replicate n 0) (inkL r d s k) = shadesL r d s k ++ List.replicate (n - k) 0
  | 0, _ => by simp [setL, inkL, shadesL]
  | k + 1, h => by
    have ih := setL_ink r d s n k (by omega)
    have e : List.replicate (n - k) (0 : Int) = 0 :: List.replicate (n - (k + 1)) 0 := by rw [show n - k = (n - (k + 1)) + 1 by omega, List.replicate_succ]
    rw [inkL, shadesL]
    split
    · rw [ih, e, List.append_assoc]; rfl
    · rw [setL_snoc, ih, e]
      simp only
      rw [List.set_append_right _ _ (by rw [shadesL_len]; omega), shadesL_len, Nat.sub_self, List.set_cons_zero, List.append_assoc]; rfl
theorem setL_all (r : RibbonD) (d : Nat) (s : ByteArray) : setL (List.replicate s.size 0) (inkL r d s s.size) = shadesL r d s s.size := by
  rw [setL_ink r d s s.size s.size (Nat.le_refl _)]; simp
theorem ints_own14 {β : Type} {B b M n : Nat} (hM : M < B) (f : β → List Int) : OwnFrom B (fun (s : β) W => OInts W b (some ⟨M, 0, none⟩) n (f s)) := fun s X Y row hs hg hr =>
  hs.block (fun p hp => by
    cases hp
    exact hg.block M (hs.lt _ rfl) (fun e => by have := (hr M e.symm).1; omega))
theorem cells_own14 {β : Type} (B b : Nat) (cs : Array Value) (T : TypeId) : OwnFrom B (fun (_ : β) W => W.heap[b]? = some (.cells cs T)) := fun s X Y row hs hg hr => by
  refine (hg.block b (own_lt hs) (fun e => ?_)).trans hs
  obtain ⟨_, o', h3, h4⟩ := hr b e.symm
  rw [hs] at h3
  cases h3
  cases h4
theorem set_grown14 (W : World) (b i : Nat) (v : Value) : W.grownBy (W.setCell ⟨b, i, none⟩ v) (some b) :=
  ⟨rfl, rfl, rfl, (KeepsWalks.setCell W _ v).size, fun k _ hk => Below.heap_setCell _ _ _ k (fun e => hk (by rw [e]))⟩
theorem set_other14 (W : World) (b i : Nat) (v : Value) (k : Nat) (h : k ≠ b) : (W.setCell ⟨b, i, none⟩ v).heap[k]? = W.heap[k]? := Below.heap_setCell _ _ _ k h
set_option maxRecDepth 100000 in
set_option maxHeartbeats 3200000 in
theorem shW14 (r : RibbonD) (n : Int) (s : ByteArray) (w : World) (hs : s.size ≤ 1048576) (h1 : txC r n s = 0) :
    Calls Try.prog 26 #[.agg #[.int .i64 r.spots, .int .i64 r.ink, .int .i64 r.takes], .int .i64 n, .string s] w (IOut (shadesL r n.toNat s s.size, 0) w) := by
  obtain ⟨hk1, hk2⟩ := txC_ok h1
  obtain ⟨hok, h0, h3⟩ := rcC_ok hk1
  have hsz := tB14_size hk2
  have hc1 := Lib.hid (fun W => code14i r n hk1 W)
  have hit := Lib.hid (fun W => inkt14i s hk2 W hs)
  obtain ⟨d, rfl⟩ : ∃ d : Nat, n = (d : Int) := ⟨n.toNat, by omega⟩
  have hseq := Lib.hid (fun N W hC => ink_stops 8 (by omega) N r hok d (by omega) s hsz W hC)
  rw [Int.toNat_natCast]
  rw [← setL_all]
  generalize inkL r d s s.size = L at *
  clear hok h1 hk1 hk2
  obtain ⟨S, I, K⟩ := r
  obtain ⟨i0, hi, hz0, hz1, hz2⟩ := info_parts Try.infoI64
  have hmk := fun W => run_make_many (P := Try.prog) 31 2 i0 _ Try.underlying31 hi hz0 .i64 .i64 s.size (by rw [hz2]; omega) (by omega) W
  rw [hz1, Nat.mul_one] at hmk
  refine (callsIn_wide (n := 9)).1 ?_
  refine callsIn_of_wp_marks Try.func26 rfl trivial ?_ rfl
  simp only [Try.ntmps26, List.size_toArray, List.length_cons, List.length_nil, Nat.reduceAdd, Nat.reduceSub, Array.replicate_succ, Array.replicate_zero, List.push_toArray, List.append_toArray, List.nil_append, List.cons_append]
  gi_wp2_with fail
  refine ⟨trivial, (callsIn_wide.2 (hc1.out _)).mono ?_⟩
  rintro e w1 ⟨rfl, hb1⟩
  have hbx := (Box3r.new w 25 (.int .i64 S) (.int .i64 I) (.int .i64 K)).step hb1
  have l1 := box_lt14 hbx
  have l2 : w.heap.size < w1.heap.size + 1 := by omega
  obtain ⟨q0, q1, q2⟩ := hbx
  replace hb1 := Lib.hid ((below_a1 w _).step hb1)
  have hz := hb1.out.size
  gi_wp2_with fail
  refine ⟨trivial, (callsIn_wide.2 (hit.out _)).mono ?_⟩
  rintro e w1' ⟨rfl, rfl⟩
  gi_wp2_with fail
  refine ⟨trivial, (ink_in _ ⟨S, I, K⟩ (d : Int) s _).mono ?_⟩
  rintro e w2 ⟨rfl, rfl⟩
  gi_wp2_with fail
  have hW0 : Below w1.heap.size w1 (((((w1.alloc (.cells (madeCells #[.int .i64 0] s.size) 2)).alloc (.cells #[.slice (some ⟨w1.heap.size, 0, none⟩) s.size s.size] 31)).alloc (.cells #[.int .i64 S, .int .i64 I, .int .i64 K] 25)).alloc (.cells #[.int .i64 (d : Int)] 2)).alloc (.cells #[.string s] 9)) := (((((Below.refl _ _).alloc (Nat.le_refl _) _).alloc (by simp) _).alloc (by simp; omega) _).alloc (by simp; omega) _).alloc (by simp; omega) _
  have hO0 := OInts.zerosI w1 s.size
  replace hO0 := (((hO0.below (below_a1 _ (.cells #[.slice (some ⟨w1.heap.size, 0, none⟩) s.size s.size] 31))).below (below_a1 _ (.cells #[.int .i64 S, .int .i64 I, .int .i64 K] 25))).below (below_a1 _ (.cells #[.int .i64 (d : Int)] 2))).below (below_a1 _ (.cells #[.string s] 9))
  have hX0 := heap_alloc_new (w1.alloc (.cells (madeCells #[.int .i64 0] s.size) 2)) (.cells #[.slice (some ⟨w1.heap.size, 0, none⟩) s.size s.size] 31)
  have hXl := own_lt hX0
  replace hX0 := (Below.heap_alloc _ (.cells #[.int .i64 S, .int .i64 I, .int .i64 K] 25) _ hXl).trans hX0
  replace hX0 := (Below.heap_alloc _ (.cells #[.int .i64 (d : Int)] 2) _ (own_lt hX0)).trans hX0
  replace hX0 := (Below.heap_alloc _ (.cells #[.string s] 9) _ (own_lt hX0)).trans hX0
  rw [World.size_alloc] at hX0
  have hC0 : Capt (w1.heap.size + 2) ⟨S, I, K⟩ d s (((((w1.alloc (.cells (madeCells #[.int .i64 0] s.size) 2)).alloc (.cells #[.slice (some ⟨w1.heap.size, 0, none⟩) s.size s.size] 31)).alloc (.cells #[.int .i64 S, .int .i64 I, .int .i64 K] 25)).alloc (.cells #[.int .i64 (d : Int)] 2)).alloc (.cells #[.string s] 9)) := by
    refine ⟨?_, ?_, ?_⟩
    · have h := Box3r.new ((w1.alloc (.cells (madeCells #[.int .i64 0] s.size) 2)).alloc (.cells #[.slice (some ⟨w1.heap.size, 0, none⟩) s.size s.size] 31)) 25 (.int .i64 S) (.int .i64 I) (.int .i64 K)
      simp only [World.size_alloc] at h
      exact (h.step (below_a1 _ _)).step (below_a1 _ _)
    · exact cell_step (cell_new (by simp) rfl) (below_a1 _ _)
    · exact cell_new (by simp) rfl
  have hseq0 := hseq.out (w1.heap.size + 2) _ hC0
  have hsz0 : (((((w1.alloc (.cells (madeCells #[.int .i64 0] s.size) 2)).alloc (.cells #[.slice (some ⟨w1.heap.size, 0, none⟩) s.size s.size] 31)).alloc (.cells #[.int .i64 S, .int .i64 I, .int .i64 K] 25)).alloc (.cells #[.int .i64 (d : Int)] 2)).alloc (.cells #[.string s] 9)).heap.size = w1.heap.size + 5 := by simp
  obtain ⟨W0, hW00⟩ : ∃ W0, ((((w1.alloc (.cells (madeCells #[.int .i64 0] s.size) 2)).alloc (.cells #[.slice (some ⟨w1.heap.size, 0, none⟩) s.size s.size] 31)).alloc (.cells #[.int .i64 S, .int .i64 I, .int .i64 K] 25)).alloc (.cells #[.int .i64 (d : Int)] 2)).alloc (.cells #[.string s] 9) = W0 := ⟨_, rfl⟩
  simp only [hW00] at hW0 hO0 hX0 hC0 hseq0 hsz0 ⊢
  clear hW00 hmk q0 q1 q2 hc1 hit hseq hXl
  generalize hMM : w1.heap.size = M at *
  refine wpIn_rangeFunc_ownH rfl (by omega) (gf := 56) (lb := #[.pointer (some ⟨M + 2 + 1, 0, none⟩), .pointer (some ⟨M + 2 + 2, 0, none⟩), .pointer (some ⟨M + 2, 0, none⟩)]) rfl trivial (enters_of Try.func56 (by kernel_rfl) rfl)
    hseq0 keptR_t (fun W l o o' hl h1 h2 h3 => keptR_b W l o o' (by omega) h1 h2 h3) (Below.refl _ _) (fun _ => rfl)
    (fun pre W => OInts W M (some ⟨M, 0, none⟩) s.size (setL (List.replicate s.size 0) (pre.map Subtype.val)) ∧ W.heap[M + 1]? = some (.cells #[.slice (some ⟨M, 0, none⟩) s.size s.size] 31) ∧ Below M w1 W)
    (fun _ _ _ => False)
    (OwnFrom.and (ints_own14 (by omega) _) (OwnFrom.and (cells_own14 _ _ _ _) (ownFrom_below (by omega) (by omega))))
    (fun _ _ _ _ _ hs _ _ => hs)
    ⟨hO0, hX0, hW0⟩
    (fun x a' _ => a' = { tmps := #[.agg #[.int .i64 S, .int .i64 I, .int .i64 K], .int .i64 (d : Int), .string s, .pointer (some ⟨w.heap.size, 0, none⟩), undef, undef, .slice none 0 0, .int .i64 0, .int .i64 0, .pointer (some ⟨M + 1, 0, none⟩), .int .i64 (x.1.1 : Int), .int .i64 x.1.2, .agg #[.int .i64 S, .int .i64 I, .int .i64 K], .int .i64 (d : Int), .int .i64 0, .int .i64 0, .bool false, undef, .string s, .bool true, .bool false, .string s, .int .i64 (s.size : Int), .slice (some ⟨M, 0, none⟩) s.size s.size, .agg #[.int .i64 S, .int .i64 I, .int .i64 K], .int .i64 (d : Int), .string s, .func (.func 56) #[] #[.pointer (some ⟨M + 3, 0, none⟩), .pointer (some ⟨M + 4, 0, none⟩), .pointer (some ⟨M + 2, 0, none⟩)], .int .i64 (x.1.1 : Int), .int .i64 x.1.2, undef, undef, undef, undef, undef], defers := [] })
    (fun x a' _ X Y row hs hg hr => hs)
    ?assign ?body ?done ?stop
  case assign =>
    rintro l pre x W K ⟨hi1, hx1, hb1⟩ hK
    dsimp only [encI]
    gi_wp2
    exact hK _ _ (KeepsFrom.refl _ _) ⟨Nat.le_refl _, fun _ _ _ => rfl⟩ ⟨hi1, hx1, hb1⟩ rfl
  case body =>
    rintro l pre x a' W hl ⟨rr, hrr⟩ ⟨hi1, hx1, hbl⟩ rfl hlt
    obtain ⟨s0, f0, l0, _⟩ := OInts.partsI hi1 x.2
    have d0 := own_cell hx1 (o := 0) (u := .slice (some ⟨M, 0, none⟩) s.size s.size) rfl
    have x0 : (0 : Int) ≤ (x.1.1 : Int) := Int.natCast_nonneg _
    have x1 : (x.1.1 : Int) < (s.size : Int) := by have := x.2; omega
    have hfin : Hid (KeepsFrom W0.heap.size W (W.setCell ⟨M, x.1.1, none⟩ (.int .i64 x.1.2)) ∧ KeptR (M + 2) (M + 2 + 3) W (W.setCell ⟨M, x.1.1, none⟩ (.int .i64 x.1.2)) ∧ OInts (W.setCell ⟨M, x.1.1, none⟩ (.int .i64 x.1.2)) M (some ⟨M, 0, none⟩) s.size (setL (List.replicate s.size 0) ((pre ++ [x]).map Subtype.val)) ∧ (W.setCell ⟨M, x.1.1, none⟩ (.int .i64 x.1.2)).heap[M + 1]? = some (.cells #[.slice (some ⟨M, 0, none⟩) s.size s.size] 31) ∧ Below M w1 (W.setCell ⟨M, x.1.1, none⟩ (.int .i64 x.1.2))) := Lib.hid (by
      have hgr := set_grown14 W M x.1.1 (.int .i64 x.1.2)
      have hlX := own_lt hx1
      refine ⟨KeepsFrom.of_grownBy hgr (fun j hj => by cases hj; omega), ⟨hgr.size, fun k h4 h5 => set_other14 W M _ _ k (by omega)⟩, ?_, (set_other14 W M _ _ (M + 1) (by omega)).trans hx1, hbl.grown hgr (by omega) (fun k e => by cases e; exact Nat.le_refl _)⟩
      rw [List.map_append, List.map_cons, List.map_nil, setL_snoc]
      exact OInts.putI x.1.2 hi1 x.2)
    clear hi1 hx1
    gi_wp2
    exact hfin.out
  case done =>
    rintro D ys W hD hys ⟨hi1, hx1, hbl⟩ hK
    have d0 := own_cell hx1 (o := 0) (u := .slice (some ⟨M, 0, none⟩) s.size s.size) rfl
    gi_wp2
    refine ⟨by simp, .inl ⟨_, _, rfl, run_takeDeferred hK, ?_⟩⟩
    have hB4 := hbl.trans (belowK_b (n₀ := M) (w := W0) (by omega) W D _ (.deferred none) hD hK rfl rfl)
    refine ⟨.tuple #[.slice (some ⟨M, 0, none⟩) s.size s.size, .int .i64 0], by simp [results, Try.f26, go_sem], _, s.size, s.size, rfl, by omega, ?_, hb1.out.trans (hB4.mono hz)⟩
    have hys2 : ys.map Subtype.val = L := hys
    rw [hys2] at hi1
    exact (hi1.block (fun p hp => by cases hp; exact World.putObj_heap_other (by show M ≠ D; omega))).mono hz
  case stop =>
    rintro D c pre W _ _ h _
    exact h.elim
set_option maxHeartbeats 1600000 in
theorem sh14_impl (r : RibbonD) (n : Int) (s : ByteArray) (w : World) (hg : r.good) (hwf : (Lit.int .i64 n).wf = true) (hs : s.size ≤ 1048576) :
    Calls Try.prog 26 #[.agg #[.int .i64 r.spots, .int .i64 r.ink, .int .i64 r.takes], .int .i64 n, .string s] w (IOut (shR14 r n s) w) := by
  clear hg hwf
  by_cases h1 : txC r n s = 0
  · rw [show shR14 r n s = (shadesL r n.toNat s s.size, 0) by rw [shR14, if_pos h1]]
    exact shW14 r n s w hs h1
  · have hb : Hid (shR14 r n s = ([], txC r n s)) := Lib.hid (by rw [shR14, if_neg h1])
    generalize shR14 r n s = q at *
    by_cases h2 : rcC r n = 0
    · cases h3 : tB14 s with
      | true => exact absurd (by rw [txC, if_pos h2, if_pos h3]) h1
      | false =>
        have h4 : txC r n s = 2 := by rw [txC, if_pos h2, h3]; rfl
        rw [h4] at hb
        have hc1 := Lib.hid (fun W => code14i r n h2 W)
        have hit := Lib.hid (fun W => inkt14i s h3 W hs)
        clear h1 h2 h3 h4
        obtain ⟨S, I, K⟩ := r
        go_enter Try.func26, Try.ntmps26
        go_wp2_with fail
        refine (hc1.out _).mono ?_
        rintro e w1 ⟨rfl, hb1⟩
        go_wp2_with fail
        refine (hit.out _).mono ?_
        rintro e w1' ⟨rfl, rfl⟩
        go_wp2
        go_ret2
        exact IOut.bad hb.out ((below_a1 _ _).step hb1)
    · have h4 : txC r n s = rcC r n := by rw [txC, if_neg h2]
      rw [h4] at hb
      have hc1 := Lib.hid (fun W => code14i r n rfl W)
      clear h1 h4
      generalize rcC r n = g at *
      have y1 : (g == 0) = false := beq_eq_false_iff_ne.2 h2
      have y2 : (g != 0) = true := by rw [bne, y1]; rfl
      clear h2
      obtain ⟨S, I, K⟩ := r
      go_enter Try.func26, Try.ntmps26
      go_wp2_with fail
      refine (hc1.out _).mono ?_
      rintro e w1 ⟨rfl, hb1⟩
      go_wp2
      go_ret2
      exact IOut.bad hb.out ((below_a1 _ _).step hb1)
end Go.Proofs.Ytceedmejmmoepaa
