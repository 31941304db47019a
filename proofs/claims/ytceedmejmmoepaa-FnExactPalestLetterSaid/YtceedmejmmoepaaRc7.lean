/- Ribbons: the program's PalestLetter. -/
import Derived.Test.YtceedmejmmoepaaRc6
namespace Go.Proofs.Ytceedmejmmoepaa
open Go.RowKit Go.ChangeShapes Go.WideShapes Go.Deep Go.Shelf
set_option linter.unusedVariables false
set_option linter.unusedSimpArgs false
attribute [local go_sem] Oper.semAt_some

/-- The two results, which lie in boxes, and the box of what is told. -/
structure Res2 (B : Nat) (l a b : Int) (w W : World) : Prop where
  cl : W.heap[B + 1]? = some (.cells #[.int .i64 l] 2)
  c0 : W.heap[B + 1 + 1]? = some (.cells #[.int .i64 a] 2)
  c1 : W.heap[B + 1 + 1 + 1]? = some (.cells #[.int .i64 b] 2)
  bw : Below B w W
theorem Res2.grown {B : Nat} {l a b : Int} {w X Y : World} {row : Option Nat} (hs : Res2 B l a b w X) (h0 : w.heap.size = B) (hg : X.grownBy Y row) (hr : ∀ r, row = some r → B ≤ r ∧ ∃ o : Obj, X.heap[r]? = some o ∧ o.isCells = false) : Res2 B l a b w Y := by
  obtain ⟨cl, c0, c1, bw⟩ := hs
  have hne : ∀ k cs T, X.heap[k]? = some (.cells cs T) → some k ≠ row := fun k cs T hk e => by
    obtain ⟨_, o', h3, h4⟩ := hr k e.symm
    rw [hk] at h3
    cases h3
    cases h4
  refine ⟨(hg.block _ (own_lt cl) (hne _ _ _ cl)).trans cl, (hg.block _ (own_lt c0) (hne _ _ _ c0)).trans c0, (hg.block _ (own_lt c1) (hne _ _ _ c1)).trans c1, ?_⟩
  exact bw.grown hg (by have := bw.size; omega) (fun k e => (hr k e).1)
theorem Res2.below {B : Nat} {l a b : Int} {w X Y : World} (hs : Res2 B l a b w X) (h0 : w.heap.size = B) (hb : Below X.heap.size X Y) : Res2 B l a b w Y := hs.grown h0 (grown_below hb none) (fun r e => by cases e)
/-- Both results are stored. -/
theorem Res2.store {B : Nat} {l a b : Int} {w X : World} (hs : Res2 B l a b w X) (h0 : w.heap.size = B) (x y : Int) : Res2 B l x y w ((X.setCell ⟨B + 1 + 1, 0, none⟩ (.int .i64 x)).setCell ⟨B + 1 + 1 + 1, 0, none⟩ (.int .i64 y)) := by
  obtain ⟨cl, c0, c1, bw⟩ := hs
  have d1 := heap_setCell_same X (B + 1 + 1) 0 _ _ (.int .i64 x) c0
  have e1 := (set_other14 X (B + 1 + 1) 0 (.int .i64 x) (B + 1 + 1 + 1) (by omega)).trans c1
  have d2 := heap_setCell_same (X.setCell ⟨B + 1 + 1, 0, none⟩ (.int .i64 x)) (B + 1 + 1 + 1) 0 _ _ (.int .i64 y) e1
  refine ⟨(set_other14 _ _ _ _ _ (by omega)).trans ((set_other14 _ _ _ _ _ (by omega)).trans cl), (set_other14 _ _ _ _ _ (by omega)).trans d1, d2, ?_⟩
  have hl := own_lt c1
  have hl0 := own_lt c0
  have b1 := bw.grown (set_grown14 X (B + 1 + 1) 0 (.int .i64 x)) (by omega) (fun k e => by cases e; omega)
  exact b1.grown (set_grown14 _ (B + 1 + 1 + 1) 0 (.int .i64 y)) (by simp; omega) (fun k e => by cases e; omega)
theorem start14 (w w1 : World) (S I K least : Int) (hb1 : Below ((((w.alloc (.cells #[.int .i64 S, .int .i64 I, .int .i64 K] 25)).alloc (.cells #[.int .i64 least] 2)).alloc (.cells #[.int .i64 0] 2)).alloc (.cells #[.int .i64 0] 2)).heap.size ((((w.alloc (.cells #[.int .i64 S, .int .i64 I, .int .i64 K] 25)).alloc (.cells #[.int .i64 least] 2)).alloc (.cells #[.int .i64 0] 2)).alloc (.cells #[.int .i64 0] 2)) w1) :
    Res2 w.heap.size least 0 0 w w1 ∧ Box3r w.heap.size (.int .i64 S) (.int .i64 I) (.int .i64 K) w1 := by
  obtain ⟨wA, hwA⟩ : ∃ wA, (((w.alloc (.cells #[.int .i64 S, .int .i64 I, .int .i64 K] 25)).alloc (.cells #[.int .i64 least] 2)).alloc (.cells #[.int .i64 0] 2)).alloc (.cells #[.int .i64 0] 2) = wA := ⟨_, rfl⟩
  have hbA : Below w.heap.size w wA := hwA ▸ ((((Below.refl _ _).alloc (Nat.le_refl _) _).alloc (by simp) _).alloc (by simp; omega) _).alloc (by simp; omega) _
  have hzA : wA.heap.size = w.heap.size + 4 := by rw [← hwA]; simp
  have hbx : Box3r w.heap.size (.int .i64 S) (.int .i64 I) (.int .i64 K) wA := hwA ▸ (((Box3r.new w _ _ _ _).step (below_a1 _ _)).step (below_a1 _ _)).step (below_a1 _ _)
  have hle : wA.heap[w.heap.size + 1]? = some (.cells #[.int .i64 least] 2) := by
    rw [← hwA]
    have h := heap_alloc_new (w.alloc (.cells #[.int .i64 S, .int .i64 I, .int .i64 K] 25)) (.cells #[.int .i64 least] 2)
    have h2 := (Below.heap_alloc _ (.cells #[.int .i64 0] 2) _ (own_lt h)).trans h
    have h3 := (Below.heap_alloc _ (.cells #[.int .i64 0] 2) _ (own_lt h2)).trans h2
    simp only [World.size_alloc] at h3
    exact h3
  have hr0 : wA.heap[w.heap.size + 1 + 1]? = some (.cells #[.int .i64 0] 2) := by
    rw [← hwA]
    have h := heap_alloc_new ((w.alloc (.cells #[.int .i64 S, .int .i64 I, .int .i64 K] 25)).alloc (.cells #[.int .i64 least] 2)) (.cells #[.int .i64 0] 2)
    have h2 := (Below.heap_alloc _ (.cells #[.int .i64 0] 2) _ (own_lt h)).trans h
    simp only [World.size_alloc] at h2
    exact h2
  have hr1 : wA.heap[w.heap.size + 1 + 1 + 1]? = some (.cells #[.int .i64 0] 2) := by
    rw [← hwA]
    have h := heap_alloc_new (((w.alloc (.cells #[.int .i64 S, .int .i64 I, .int .i64 K] 25)).alloc (.cells #[.int .i64 least] 2)).alloc (.cells #[.int .i64 0] 2)) (.cells #[.int .i64 0] 2)
    simp only [World.size_alloc] at h
    exact h
  simp only [hwA] at hb1
  have hz1 := hb1.size
  have hbx1 := hbx.step hb1
  have hR1 : Res2 w.heap.size least 0 0 w w1 := ⟨(hb1.block _ (own_lt hle)).trans hle, (hb1.block _ (own_lt hr0)).trans hr0, (hb1.block _ (own_lt hr1)).trans hr1, hbA.trans (hb1.mono (by omega))⟩
  exact ⟨hR1, hbx1⟩
def PaI {m : Nat} (least : Int) (pre : List (InkX m)) : Prop := ∀ x ∈ pre, ¬ x.1.2 < least
def PaX {m : Nat} (least : Int) (pre : List (InkX m)) (v : Nat) : Prop := ∃ ys x, pre = ys ++ [x] ∧ PaI least ys ∧ x.1.2 < least ∧ x.1.1 = v
set_option maxRecDepth 100000 in
set_option maxHeartbeats 3200000 in
theorem paW14 (r : RibbonD) (n : Int) (s : ByteArray) (least : Int) (w : World) (hs : s.size ≤ 1048576) (h1 : txC r n s = 0) (h2 : inR least 1 r.ink = true) {q : Int × Int} (hq : paL least (inkL r n.toNat s s.size) = q) :
    Calls Try.prog 28 #[.agg #[.int .i64 r.spots, .int .i64 r.ink, .int .i64 r.takes], .int .i64 n, .string s, .int .i64 least] w fun e w' => e = .returned (.tuple #[.int .i64 q.1, .int .i64 q.2]) ∧ Below w.heap.size w w' := by
  obtain ⟨hk1, hk2⟩ := txC_ok h1
  obtain ⟨hok, h0, h3⟩ := rcC_ok hk1
  have hsz := tB14_size hk2
  have hc1 := Lib.hid (fun W => code14i r n hk1 W)
  have hit := Lib.hid (fun W => inkt14i s hk2 W hs)
  obtain ⟨d, rfl⟩ : ∃ d : Nat, n = (d : Int) := ⟨n.toNat, by omega⟩
  have hseq := Lib.hid (fun N W hC => ink_stops 8 (by omega) N r hok d (by omega) s hsz W hC)
  rw [Int.toNat_natCast] at hq
  have hpr := Lib.hid (fun k hk => inkL_pre r d s k s.size hk)
  generalize inkL r d s = L at *
  replace hq := Lib.hid hq
  replace h2 := Lib.hid h2
  clear hok h1 hk1 hk2
  obtain ⟨S, I, K⟩ := r
  simp only at h2
  refine (callsIn_wide (n := 9)).1 ?_
  refine callsIn_of_wp_marks Try.func28 rfl trivial ?_ rfl
  simp only [Try.ntmps28, List.size_toArray, List.length_cons, List.length_nil, Nat.reduceAdd, Nat.reduceSub, Array.replicate_succ, Array.replicate_zero, List.push_toArray, List.append_toArray, List.nil_append, List.cons_append]
  gi_wp2_with fail
  refine ⟨trivial, (callsIn_wide.2 (hc1.out _)).mono ?_⟩
  rintro e w1 ⟨rfl, hb1⟩
  replace hb1 := Lib.hid hb1
  obtain ⟨wA, hwA⟩ : ∃ wA, (((w.alloc (.cells #[.int .i64 S, .int .i64 I, .int .i64 K] 25)).alloc (.cells #[.int .i64 least] 2)).alloc (.cells #[.int .i64 0] 2)).alloc (.cells #[.int .i64 0] 2) = wA := ⟨_, rfl⟩
  have hbA : Below w.heap.size w wA := hwA ▸ ((((Below.refl _ _).alloc (Nat.le_refl _) _).alloc (by simp) _).alloc (by simp; omega) _).alloc (by simp; omega) _
  have hzA : wA.heap.size = w.heap.size + 4 := by rw [← hwA]; simp
  have hbx : Box3r w.heap.size (.int .i64 S) (.int .i64 I) (.int .i64 K) wA := hwA ▸ (((Box3r.new w _ _ _ _).step (below_a1 _ _)).step (below_a1 _ _)).step (below_a1 _ _)
  have hle : wA.heap[w.heap.size + 1]? = some (.cells #[.int .i64 least] 2) := by
    rw [← hwA]
    have h := heap_alloc_new (w.alloc (.cells #[.int .i64 S, .int .i64 I, .int .i64 K] 25)) (.cells #[.int .i64 least] 2)
    have h2 := (Below.heap_alloc _ (.cells #[.int .i64 0] 2) _ (own_lt h)).trans h
    have h3 := (Below.heap_alloc _ (.cells #[.int .i64 0] 2) _ (own_lt h2)).trans h2
    simp only [World.size_alloc] at h3
    exact h3
  have hr0 : wA.heap[w.heap.size + 1 + 1]? = some (.cells #[.int .i64 0] 2) := by
    rw [← hwA]
    have h := heap_alloc_new ((w.alloc (.cells #[.int .i64 S, .int .i64 I, .int .i64 K] 25)).alloc (.cells #[.int .i64 least] 2)) (.cells #[.int .i64 0] 2)
    have h2 := (Below.heap_alloc _ (.cells #[.int .i64 0] 2) _ (own_lt h)).trans h
    simp only [World.size_alloc] at h2
    exact h2
  have hr1 : wA.heap[w.heap.size + 1 + 1 + 1]? = some (.cells #[.int .i64 0] 2) := by
    rw [← hwA]
    have h := heap_alloc_new (((w.alloc (.cells #[.int .i64 S, .int .i64 I, .int .i64 K] 25)).alloc (.cells #[.int .i64 least] 2)).alloc (.cells #[.int .i64 0] 2)) (.cells #[.int .i64 0] 2)
    simp only [World.size_alloc] at h
    exact h
  simp only [hwA] at hb1
  have hz1 := hb1.out.size
  have hbx1 := hbx.step hb1.out
  have hR1 : Res2 w.heap.size least 0 0 w w1 := ⟨(hb1.out.block _ (own_lt hle)).trans hle, (hb1.out.block _ (own_lt hr0)).trans hr0, (hb1.out.block _ (own_lt hr1)).trans hr1, hbA.trans (hb1.out.mono (by omega))⟩
  clear hbx hle hr0 hr1 hbA hwA
  obtain ⟨q0, q1, q2⟩ := hbx1
  have hle1 := own_cell hR1.cl (o := 0) (u := .int .i64 least) rfl
  gi_wp2_with fail
  refine ⟨trivial, (callsIn_wide.2 (hit.out _)).mono ?_⟩
  rintro e w1' ⟨rfl, rfl⟩
  gi_wp2_with fail
  refine ⟨trivial, (callsIn_wide.2 (in8_impl h2.out _)).mono ?_⟩
  rintro e w1' ⟨rfl, rfl⟩
  gi_wp2_with fail
  refine ⟨trivial, (ink_in _ ⟨S, I, K⟩ (d : Int) s _).mono ?_⟩
  rintro e w2 ⟨rfl, rfl⟩
  gi_wp2_with fail
  have hC0 : Capt w1.heap.size ⟨S, I, K⟩ d s (((w1.alloc (.cells #[.int .i64 S, .int .i64 I, .int .i64 K] 25)).alloc (.cells #[.int .i64 (d : Int)] 2)).alloc (.cells #[.string s] 9)) := by
    refine ⟨?_, ?_, ?_⟩
    · exact ((Box3r.new w1 25 (.int .i64 S) (.int .i64 I) (.int .i64 K)).step (below_a1 _ _)).step (below_a1 _ _)
    · exact cell_step (cell_new (by simp) rfl) (below_a1 _ _)
    · exact cell_new (by simp) rfl
  have hseq0 := hseq.out w1.heap.size _ hC0
  have hbW : Below w1.heap.size w1 (((w1.alloc (.cells #[.int .i64 S, .int .i64 I, .int .i64 K] 25)).alloc (.cells #[.int .i64 (d : Int)] 2)).alloc (.cells #[.string s] 9)) := ((Below.refl _ _).alloc (Nat.le_refl _) _ |>.alloc (by simp) _).alloc (by simp; omega) _
  have hsz0 : (((w1.alloc (.cells #[.int .i64 S, .int .i64 I, .int .i64 K] 25)).alloc (.cells #[.int .i64 (d : Int)] 2)).alloc (.cells #[.string s] 9)).heap.size = w1.heap.size + 3 := by simp
  obtain ⟨W0, hW00⟩ : ∃ W0, ((w1.alloc (.cells #[.int .i64 S, .int .i64 I, .int .i64 K] 25)).alloc (.cells #[.int .i64 (d : Int)] 2)).alloc (.cells #[.string s] 9) = W0 := ⟨_, rfl⟩
  simp only [hW00] at hC0 hseq0 hsz0 hbW ⊢
  have hR0 : Res2 w.heap.size least 0 0 w W0 := hR1.below rfl hbW
  clear hW00 hR1 q0 q1 q2 hle1 hc1 hit hseq hb1 h2
  generalize hNN : w1.heap.size = N at *
  have hBN : w.heap.size + 4 ≤ N := by omega
  refine wpIn_rangeFunc_ownH rfl (by omega) (gf := 56) (lb := #[.pointer (some ⟨N + 1, 0, none⟩), .pointer (some ⟨N + 2, 0, none⟩), .pointer (some ⟨N, 0, none⟩)]) rfl trivial (enters_of Try.func56 (by kernel_rfl) rfl)
    hseq0 keptR_t (fun W l o o' hl h1 h2 h3 => keptR_b W l o o' (by omega) h1 h2 h3) (Below.refl _ _) (fun _ => rfl)
    (fun pre W => PaI least pre ∧ Res2 w.heap.size least 0 0 w W)
    (fun c pre W => c = .ret ∧ ∃ v : Nat, PaX least pre v ∧ Res2 w.heap.size least (v : Int) 0 w W)
    (fun s X Y row hs hg hr => ⟨hs.1, hs.2.grown rfl hg (fun r e => ⟨by have := (hr r e).1; omega, (hr r e).2⟩)⟩)
    (fun c s X Y row hs hg hr => by
      obtain ⟨h1, v, h2, h5⟩ := hs
      exact ⟨h1, v, h2, h5.grown rfl hg (fun r e => ⟨by have := (hr r e).1; omega, (hr r e).2⟩)⟩)
    ⟨(fun x hx => nomatch hx), hR0⟩
    (fun x a' _ => a' = { tmps := #[.agg #[.int .i64 S, .int .i64 I, .int .i64 K], .int .i64 (d : Int), .string s, .int .i64 least, .pointer (some ⟨w.heap.size, 0, none⟩), undef, undef, .pointer (some ⟨w.heap.size + 1, 0, none⟩), .pointer (some ⟨w.heap.size + 1 + 1, 0, none⟩), .pointer (some ⟨w.heap.size + 1 + 1 + 1, 0, none⟩), .int .i64 0, .int .i64 (x.1.1 : Int), .int .i64 x.1.2, .agg #[.int .i64 S, .int .i64 I, .int .i64 K], .int .i64 (d : Int), .int .i64 0, .int .i64 0, .bool false, undef, .string s, .bool true, .bool false, .bool false, .int .i64 least, .pointer (some ⟨w.heap.size, 1, none⟩), .int .i64 I, .bool true, .bool false, .bool false, .agg #[.int .i64 S, .int .i64 I, .int .i64 K], .int .i64 (d : Int), .string s, .func (.func 56) #[] #[.pointer (some ⟨N + 1, 0, none⟩), .pointer (some ⟨N + 2, 0, none⟩), .pointer (some ⟨N, 0, none⟩)], .int .i64 (x.1.1 : Int), .int .i64 x.1.2, undef, undef, undef, undef], defers := [] })
    (fun x a' _ X Y row hs hg hr => hs)
    ?assign ?body ?done ?stop
  case assign =>
    rintro l pre x W K ⟨hp1, hR⟩ hK
    dsimp only [encI]
    gi_wp2
    exact hK _ _ (KeepsFrom.refl _ _) ⟨Nat.le_refl _, fun _ _ _ => rfl⟩ ⟨hp1, hR⟩ rfl
  case body =>
    rintro l pre x a' W hl ⟨rr, hrr⟩ ⟨hp1, hR⟩ rfl hlt
    have d0 := own_cell hR.cl (o := 0) (u := .int .i64 least) rfl
    have x0 : (0 : Int) ≤ (x.1.1 : Int) := Int.natCast_nonneg _
    by_cases hp : x.1.2 < least
    · have g1 : decide (x.1.2 < least) = true := decide_eq_true hp
      have hS := Lib.hid (hR.store rfl (x.1.1 : Int) 0)
      have f0 := own_frozen hR.c0 0
      have f1 := own_frozen hR.c1 0
      have b0 := own_lt hR.c0
      have b1 := own_lt hR.c1
      have hK0 : Hid (KeepsFrom (N + 3) W ((W.setCell ⟨w.heap.size + 1 + 1, 0, none⟩ (.int .i64 (x.1.1 : Int))).setCell ⟨w.heap.size + 1 + 1 + 1, 0, none⟩ (.int .i64 0))) := Lib.hid ((KeepsFrom.of_grownBy (set_grown14 W _ 0 _) (fun j e => by cases e; omega)).trans (KeepsFrom.of_grownBy (set_grown14 _ _ 0 _) (fun j e => by cases e; omega)))
      have e0 := own_cell hR.c0 (o := 0) (u := .int .i64 0) rfl
      have e1 := own_cell hR.c1 (o := 0) (u := .int .i64 0) rfl
      replace hp := Lib.hid hp
      replace hp1 := Lib.hid hp1
      clear hR
      gi_wp2
      exact ⟨(by first | exact hK0.out | (rw [hsz0]; exact hK0.out)), rfl, x.1.1, ⟨pre, x, rfl, hp1.out, hp.out, rfl⟩, hS.out⟩
    · have g1 : decide (x.1.2 < least) = false := decide_eq_false hp
      have hnx : Hid (PaI least (pre ++ [x])) := Lib.hid (by
        intro y hy
        rcases List.mem_append.1 hy with h | h
        · exact hp1 y h
        · simp at h; subst h; exact hp)
      clear hp hp1
      gi_wp2
      exact ⟨KeepsFrom.refl _ _, ⟨Nat.le_refl _, fun _ _ _ => rfl⟩, hnx.out, hR⟩
  case done =>
    rintro D ys W hD hys ⟨hp1, hR⟩ hK
    have hys2 : ys.map Subtype.val = L s.size := hys
    have hv : Hid (q = (0, 3)) := Lib.hid (by
      rw [← hq.out, ← hys2]
      refine paL_none fun x hx => ?_
      obtain ⟨y, hy, rfl⟩ := List.mem_map.1 hx
      exact hp1 y hy)
    have hS := hR.store rfl 0 3
    have f0 := own_frozen hR.c0 0
    have f1 := own_frozen hR.c1 0
    have b0 := own_lt hR.c0
    have b1 := own_lt hR.c1
    have e0 := own_cell hR.c0 (o := 0) (u := .int .i64 0) rfl
    have e1 := own_cell hR.c1 (o := 0) (u := .int .i64 0) rfl
    have hDl := own_lt hK
    have hK2 : ((W.setCell ⟨w.heap.size + 1 + 1, 0, none⟩ (.int .i64 0)).setCell ⟨w.heap.size + 1 + 1 + 1, 0, none⟩ (.int .i64 3)).heap[D]? = some (.deferred (some [])) := (set_other14 _ _ _ _ _ (by omega)).trans ((set_other14 _ _ _ _ _ (by omega)).trans hK)
    have hS2 := Lib.hid (hS.grown rfl (grownBy_putObj' _ D (.deferred none)) (fun r e => by cases e; exact ⟨by omega, _, hK2, rfl⟩))
    replace hS := Lib.hid hS
    replace hK2 := Lib.hid hK2
    clear hR
    gi_wp2
    refine ⟨by simp, .inl ⟨_, _, rfl, run_takeDeferred hK2.out, ?_⟩⟩
    have e0 := own_cell hS2.out.c0 (o := 0) (u := .int .i64 0) rfl
    have e1 := own_cell hS2.out.c1 (o := 0) (u := .int .i64 3) rfl
    generalize World.putObj _ D (Obj.deferred none) = WZ at *
    exact ⟨.tuple #[.int .i64 0, .int .i64 3], by simp [results, Try.f28, go_sem, e0, e1], by rw [hv.out], hS2.out.bw⟩
  case stop =>
    rintro D c pre W hD hsp ⟨rfl, v, ⟨ys, x, rfl, hp1, hp, rfl⟩, hR⟩ hK
    obtain ⟨k, hk, hkk⟩ := hsp
    have hv : Hid (q = ((x.1.1 : Int), 0)) := Lib.hid (by
      obtain ⟨t, ht⟩ := hpr.out k hk
      rw [← hq.out, ht, ← hkk, List.map_append, List.map_cons, List.map_nil, List.append_assoc]
      exact paL_hit hp (fun y hy => by
        obtain ⟨z, hz, rfl⟩ := List.mem_map.1 hy
        exact hp1 z hz))
    have hDl := own_lt hK
    have hS2 := hR.grown rfl (grownBy_putObj' _ D (.deferred none)) (fun r e => by cases e; exact ⟨by omega, _, hK, rfl⟩)
    gi_wp2
    refine ⟨by simp, .inl ⟨_, _, rfl, run_takeDeferred hK, ?_⟩⟩
    have e0 := own_cell hS2.c0 (o := 0) (u := .int .i64 (x.1.1 : Int)) rfl
    have e1 := own_cell hS2.c1 (o := 0) (u := .int .i64 0) rfl
    generalize W.putObj D (Obj.deferred none) = WZ at *
    exact ⟨.tuple #[.int .i64 (x.1.1 : Int), .int .i64 0], by simp [results, Try.f28, go_sem, e0, e1], by rw [hv.out], hS2.bw⟩
set_option maxHeartbeats 1600000 in
theorem pa14_impl (r : RibbonD) (n : Int) (s : ByteArray) (least : Int) (w : World) (hg : r.good) (hwf : (Lit.int .i64 n).wf = true) (hs : s.size ≤ 1048576) (hwl : (Lit.int .i64 least).wf = true) :
    Calls Try.prog 28 #[.agg #[.int .i64 r.spots, .int .i64 r.ink, .int .i64 r.takes], .int .i64 n, .string s, .int .i64 least] w fun e w' => e = .returned (.tuple #[.int .i64 (paR14 r n s least).1, .int .i64 (paR14 r n s least).2]) ∧ Below w.heap.size w w' := by
  clear hg hwf hwl
  by_cases h1 : txC r n s = 0
  · obtain ⟨hk1, hk2⟩ := txC_ok h1
    by_cases h2 : inR least 1 r.ink = true
    · exact paW14 r n s least w hs h1 h2 (by rw [paR14, if_pos h1, if_pos h2])
    · have hb : Hid (paR14 r n s least = (0, 2)) := Lib.hid (by rw [paR14, if_pos h1, if_neg h2])
      replace h2 : inR least 1 r.ink = false := by simpa using h2
      have hc1 := Lib.hid (fun W => code14i r n hk1 W)
      have hit := Lib.hid (fun W => inkt14i s hk2 W hs)
      generalize paR14 r n s least = q at *
      clear h1 hk1 hk2
      obtain ⟨S, I, K⟩ := r
      simp only at h2
      replace h2 := Lib.hid h2
      go_enter Try.func28, Try.ntmps28
      go_wp2_with fail
      refine (hc1.out _).mono ?_
      rintro e w1 ⟨rfl, hb1⟩
      obtain ⟨hR1, hbx1⟩ := start14 w w1 S I K least hb1
      replace hb1 := Lib.hid hb1
      obtain ⟨q0, q1, q2⟩ := hbx1
      have qL := own_cell hR1.cl (o := 0) (u := .int .i64 least) rfl
      have qa := own_cell hR1.c0 (o := 0) (u := .int .i64 0) rfl
      have qb := own_cell hR1.c1 (o := 0) (u := .int .i64 0) rfl
      have fa := own_frozen hR1.c0 0
      have fb := own_frozen hR1.c1 0
      have la := own_lt hR1.c0
      have lb := own_lt hR1.c1
      replace hR1 := Lib.hid hR1
      go_wp2_with fail
      refine (hit.out _).mono ?_
      rintro e w1' ⟨rfl, rfl⟩
      go_wp2_with fail
      refine (in8_impl h2.out _).mono ?_
      rintro e w1' ⟨rfl, rfl⟩
      have hS := Lib.hid (hR1.out.store rfl 0 (2))
      go_wp2
      have e0 := own_cell hS.out.c0 (o := 0) (u := .int .i64 0) rfl
      have e1 := own_cell hS.out.c1 (o := 0) (u := .int .i64 (2)) rfl
      have hSb := Lib.hid hS.out.bw
      clear hS qa qb fa fb la lb hR1
      generalize World.setCell _ _ _ = WZ at *
      refine bodyPost_ret (v := .tuple #[.int .i64 0, .int .i64 (2)]) (by simp [results, Try.f28, go_sem, e0, e1]) rfl ?_
      exact ⟨by rw [hb.out], hSb.out⟩
  · have hb : Hid (paR14 r n s least = (0, txC r n s)) := Lib.hid (by rw [paR14, if_neg h1])
    generalize paR14 r n s least = q at *
    by_cases h2 : rcC r n = 0
    · cases h3 : tB14 s with
      | true => exact absurd (by rw [txC, if_pos h2, if_pos h3]) h1
      | false =>
        have h4 : txC r n s = 2 := by rw [txC, if_pos h2, h3]; rfl
        rw [h4] at hb
        have hc1 := Lib.hid (fun W => code14i r n h2 W)
        have hit := Lib.hid (fun W => inkt14i s h3 W hs)
        clear h1 h2 h3 h4
        obtain ⟨S, I, K⟩ := r
        go_enter Try.func28, Try.ntmps28
        go_wp2_with fail
        refine (hc1.out _).mono ?_
        rintro e w1 ⟨rfl, hb1⟩
        obtain ⟨hR1, hbx1⟩ := start14 w w1 S I K least hb1
        replace hb1 := Lib.hid hb1
        obtain ⟨q0, q1, q2⟩ := hbx1
        have qL := own_cell hR1.cl (o := 0) (u := .int .i64 least) rfl
        have qa := own_cell hR1.c0 (o := 0) (u := .int .i64 0) rfl
        have qb := own_cell hR1.c1 (o := 0) (u := .int .i64 0) rfl
        have fa := own_frozen hR1.c0 0
        have fb := own_frozen hR1.c1 0
        have la := own_lt hR1.c0
        have lb := own_lt hR1.c1
        replace hR1 := Lib.hid hR1
        go_wp2_with fail
        refine (hit.out _).mono ?_
        rintro e w1' ⟨rfl, rfl⟩
        have hS := Lib.hid (hR1.out.store rfl 0 (2))
        go_wp2
        have e0 := own_cell hS.out.c0 (o := 0) (u := .int .i64 0) rfl
        have e1 := own_cell hS.out.c1 (o := 0) (u := .int .i64 (2)) rfl
        have hSb := Lib.hid hS.out.bw
        clear hS qa qb fa fb la lb hR1
        generalize World.setCell _ _ _ = WZ at *
        refine bodyPost_ret (v := .tuple #[.int .i64 0, .int .i64 (2)]) (by simp [results, Try.f28, go_sem, e0, e1]) rfl ?_
        exact ⟨by rw [hb.out], hSb.out⟩
    · have h4 : txC r n s = rcC r n := by rw [txC, if_neg h2]
      rw [h4] at hb
      have hc1 := Lib.hid (fun W => code14i r n rfl W)
      clear h1 h4
      generalize rcC r n = g at *
      have y1 : (g == 0) = false := beq_eq_false_iff_ne.2 h2
      have y2 : (g != 0) = true := by rw [bne, y1]; rfl
      clear h2
      obtain ⟨S, I, K⟩ := r
      go_enter Try.func28, Try.ntmps28
      go_wp2_with fail
      refine (hc1.out _).mono ?_
      rintro e w1 ⟨rfl, hb1⟩
      obtain ⟨hR1, hbx1⟩ := start14 w w1 S I K least hb1
      replace hb1 := Lib.hid hb1
      obtain ⟨q0, q1, q2⟩ := hbx1
      have qL := own_cell hR1.cl (o := 0) (u := .int .i64 least) rfl
      have qa := own_cell hR1.c0 (o := 0) (u := .int .i64 0) rfl
      have qb := own_cell hR1.c1 (o := 0) (u := .int .i64 0) rfl
      have fa := own_frozen hR1.c0 0
      have fb := own_frozen hR1.c1 0
      have la := own_lt hR1.c0
      have lb := own_lt hR1.c1
      replace hR1 := Lib.hid hR1
      have hS := Lib.hid (hR1.out.store rfl 0 (g))
      go_wp2
      have e0 := own_cell hS.out.c0 (o := 0) (u := .int .i64 0) rfl
      have e1 := own_cell hS.out.c1 (o := 0) (u := .int .i64 (g)) rfl
      have hSb := Lib.hid hS.out.bw
      clear hS qa qb fa fb la lb hR1
      generalize World.setCell _ _ _ = WZ at *
      refine bodyPost_ret (v := .tuple #[.int .i64 0, .int .i64 (g)]) (by simp [results, Try.f28, go_sem, e0, e1]) rfl ?_
      exact ⟨by rw [hb.out], hSb.out⟩
end Go.Proofs.Ytceedmejmmoepaa
