/- Corrections: a rule is added to the two maps; what is seen, by the program. -/
import Derived.Test.YtomnnhmhmehdjaaOv0
import Derived.Test.YtomnnhmhmehdjaaOi2
namespace Go.Proofs.Ytomnnhmhmehdjaa
open Go.RowKit Go.ChangeShapes Go.WideShapes Go.Deep Go.ChangeMaps Go.MapKept
set_option linter.unusedVariables false
set_option linter.unusedSimpArgs false

theorem cell_row12 {w w' : World} {b o r : Nat} {u : Value} (h : w.cell? ⟨b, o, none⟩ = some u) (g : w.grownBy w' (some r)) (hne : b ≠ r) : w'.cell? ⟨b, o, none⟩ = some u := by
  have hlt := World.block_lt_of_cell? _ _ h
  have hk := g.block b hlt (fun e => hne (by cases e; rfl))
  unfold World.cell? at h ⊢
  rw [hk]
  exact h
theorem map_row12 {κ : Type} [DecidableEq κ] {enc : κ → Value} {w w' : World} {r : Nat} {l : List (κ × Value)} (h : MapIs enc w r l) {q : Nat} (g : w.grownBy w' (some q)) (hne : r ≠ q) : MapIs enc w' r l := h.block (g.block r h.lt (by simpa using hne))
theorem zero_u8 : ∀ W : World, (zeroValue 5).run Try.prog W = .ok (.int .u8 0) W := fun W => by kernel_rfl
theorem blocks3a (w : World) (a b c : Obj) : (((w.alloc a).alloc b).alloc c).heap[w.heap.size]? = some a ∧ (((w.alloc a).alloc b).alloc c).heap[w.heap.size + 1]? = some b ∧ (((w.alloc a).alloc b).alloc c).heap[w.heap.size + 1 + 1]? = some c := by
  refine ⟨?_, ?_, ?_⟩
  · rw [heap_alloc_old _ _ (by simp; omega), heap_alloc_old _ _ (by simp), heap_alloc_new]
  · rw [heap_alloc_old _ _ (by simp), show w.heap.size + 1 = (w.alloc a).heap.size by simp, heap_alloc_new]
  · rw [show w.heap.size + 1 + 1 = ((w.alloc a).alloc b).heap.size by simp, heap_alloc_new]
theorem see_no {S : List ((UInt8 × UInt8) × Value)} {k : UInt8 × UInt8} (h : valOf k S = none) : (valOf k S).getD (.int .u8 0) = .int .u8 0 ∧ (valOf k S).isSome = false := by rw [h]; exact ⟨rfl, rfl⟩
theorem see_yes {S : List ((UInt8 × UInt8) × Value)} {k : UInt8 × UInt8} {b : UInt8} (h : valOf k S = some (byteV b)) : (valOf k S).getD (.int .u8 0) = .int .u8 (b.toNat : Int) ∧ (valOf k S).isSome = true := by rw [h]; exact ⟨rfl, rfl⟩
set_option maxRecDepth 100000 in
set_option maxHeartbeats 2400000 in
/-- The letters are there already. -/
theorem add_no12 (r1 r2 : Nat) (u t s b : UInt8) (S : List ((UInt8 × UInt8) × Value)) (w : World) (hS : MapIs bpV w r1 S) (hyes : valOf (u, t) S = some (byteV b)) :
    Calls Try.prog 87 #[.agg #[.map (some r1), .map (some r2)], .int .u8 (u.toNat : Int), .int .u8 (t.toNat : Int), .int .u8 (s.toNat : Int)] w fun e w' => e = .returned (.bool false) ∧ Below w.heap.size w w' := by
  have hS3 : MapIs bpV (((w.alloc (.cells #[.map (some r1), .map (some r2)] 74)).alloc (.cells #[.int .u8 (u.toNat : Int), .int .u8 (t.toNat : Int)] 122)).alloc (.cells #[.int .u8 (u.toNat : Int), .int .u8 (s.toNat : Int)] 124)) r1 S := hS.below (B := w.heap.size) (below_a3 _ _ _ _) hS.lt
  have hv1 := Lib.hid (see_yes hyes).1
  have hb1 := Lib.hid (see_yes hyes).2
  clear hyes
  go_enter Try.func87, Try.ntmps87
  go_wp2_with (at_lookup; refine wpList_look_is rfl _ _ _ 122 5 rfl layKey Try.underlying71 (zero_u8 _) rfl hS3 (u, t) rfl hv1.out hb1.out ?_)
  go_ret
  exact ⟨rfl, below_a3 _ _ _ _⟩
set_option maxRecDepth 100000 in
set_option maxHeartbeats 2400000 in
theorem add_none12 (r1 r2 : Nat) (hr : r1 ≠ r2) (u t s b : UInt8) (S T : List ((UInt8 × UInt8) × Value)) (w : World) (hS : MapIs bpV w r1 S) (hT : MapIs bpV w r2 T) (hno0 : valOf (u, t) S = none) (hT0 : valOf (u, s) T = none) (B : Nat) (hB : B ≤ w.heap.size) (hB1 : B ≤ r1) (hB2 : B ≤ r2) :
    Calls Try.prog 87 #[.agg #[.map (some r1), .map (some r2)], .int .u8 (u.toNat : Int), .int .u8 (t.toNat : Int), .int .u8 (s.toNat : Int)] w fun e w' => e = .returned (.bool true) ∧ MapIs bpV w' r1 (S ++ [((u, t), byteV s)]) ∧ MapIs bpV w' r2 (setL (u, s) (byteV t) T) ∧ Below B w w' ∧ ∀ j, j < w.heap.size → j ≠ r1 → j ≠ r2 → w'.heap[j]? = w.heap[j]? := by
  have hS3 : MapIs bpV (((w.alloc (.cells #[.map (some r1), .map (some r2)] 74)).alloc (.cells #[.int .u8 (u.toNat : Int), .int .u8 (t.toNat : Int)] 122)).alloc (.cells #[.int .u8 (u.toNat : Int), .int .u8 (s.toNat : Int)] 124)) r1 S := hS.below (B := w.heap.size) (below_a3 _ _ _ _) hS.lt
  have hT3 : MapIs bpV (((w.alloc (.cells #[.map (some r1), .map (some r2)] 74)).alloc (.cells #[.int .u8 (u.toNat : Int), .int .u8 (t.toNat : Int)] 122)).alloc (.cells #[.int .u8 (u.toNat : Int), .int .u8 (s.toNat : Int)] 124)) r2 T := hT.below (B := w.heap.size) (below_a3 _ _ _ _) hT.lt
  have hno := Lib.hid hno0
  have hv1 := Lib.hid (see_no hno0).1
  have hb1 := Lib.hid (see_no hno0).2
  have hv2 := Lib.hid (see_no hT0).1
  have hb2 := Lib.hid (see_no hT0).2
  have hl1 := hS.lt
  have hl2 := hT.lt
  clear hno0 hT0 hS hT
  go_enter Try.func87, Try.ntmps87
  go_wp2_with (first | (at_lookup; refine wpList_look_is rfl _ _ _ 122 5 rfl layKey Try.underlying71 (zero_u8 _) rfl hS3 (u, t) rfl hv1.out hb1.out ?_) | (at_mapUpdate; refine wpList_put_is rfl _ _ _ _ 122 5 rfl layKey Try.underlying71 rfl hS3 (u, t) (byteV s) rfl rfl hno.out ?_))
  intro w4 hS4 hg4
  obtain ⟨k0, k1, k2⟩ := blocks3a w (.cells #[.map (some r1), .map (some r2)] 74) (.cells #[.int .u8 (u.toNat : Int), .int .u8 (t.toNat : Int)] 122) (.cells #[.int .u8 (u.toNat : Int), .int .u8 (s.toNat : Int)] 124)
  have c1 := cell_row12 (own_cell k0 (o := 1) rfl) hg4 (by omega)
  have d0 := cell_row12 (own_cell k2 (o := 0) rfl) hg4 (by omega)
  have d1 := cell_row12 (own_cell k2 (o := 1) rfl) hg4 (by omega)
  have hT4 := map_row12 hT3 hg4 (Ne.symm hr)
  have hb4 : Below B w w4 := ((below_a3 w _ _ _).mono hB).grown hg4 (by simp; omega) (fun j hj => by cases hj; exact hB1)
  have hsz4 := hg4.size
  have hk4 := Lib.hid (fun (j : Nat) (hj : j < w.heap.size) (hn : j ≠ r1) => (hg4.block j (by simp; omega) (fun e => hn (by cases e; rfl))).trans ((below_a3 w _ _ _).block j hj))
  have hlt2 := World.block_lt_of_cell? _ _ d0
  have hlt0 := World.block_lt_of_cell? _ _ c1
  simp only at hlt2 hlt0
  clear k0 k1 k2 hS3 hT3
  have hS4' := Lib.hid hS4
  clear hS4
  go_wp2_with (first | (at_lookup; refine wpList_look_is rfl _ _ _ 124 5 rfl chgKey Try.underlying72 (zero_u8 _) rfl hT4 (u, s) rfl hv2.out hb2.out ?_) | (at_mapUpdate; refine wpList_set_is rfl _ _ _ _ 124 5 rfl chgKey Try.underlying72 rfl hT4 (u, s) (byteV t) rfl rfl (bp_stays _) ?_))
  intro w5 hT5 hg5
  have hS5 := Lib.hid (map_row12 hS4'.out hg5 hr)
  have hT5' := Lib.hid hT5
  have hb5 := Lib.hid (hb4.grown hg5 (Nat.le_trans hB (by have := hb4.size; omega)) (fun j hj => by cases hj; exact hB2))
  have hk5 := Lib.hid (fun (j : Nat) (hj : j < w.heap.size) (hn1 : j ≠ r1) (hn2 : j ≠ r2) => (hg5.block j (by omega) (fun e => hn2 (by cases e; rfl))).trans (hk4.out j hj hn1))
  clear hT5 hg5
  go_wp2
  go_ret
  exact ⟨rfl, hS5.out, hT5'.out, hb5.out, hk5.out⟩
set_option maxRecDepth 100000 in
set_option maxHeartbeats 2400000 in
theorem add_less12 (r1 r2 : Nat) (hr : r1 ≠ r2) (u t s b : UInt8) (S T : List ((UInt8 × UInt8) × Value)) (w : World) (hS : MapIs bpV w r1 S) (hT : MapIs bpV w r2 T) (hno0 : valOf (u, t) S = none) (hT0 : valOf (u, s) T = some (byteV b)) (hlt : t.toNat < b.toNat) (B : Nat) (hB : B ≤ w.heap.size) (hB1 : B ≤ r1) (hB2 : B ≤ r2) :
    Calls Try.prog 87 #[.agg #[.map (some r1), .map (some r2)], .int .u8 (u.toNat : Int), .int .u8 (t.toNat : Int), .int .u8 (s.toNat : Int)] w fun e w' => e = .returned (.bool true) ∧ MapIs bpV w' r1 (S ++ [((u, t), byteV s)]) ∧ MapIs bpV w' r2 (setL (u, s) (byteV t) T) ∧ Below B w w' ∧ ∀ j, j < w.heap.size → j ≠ r1 → j ≠ r2 → w'.heap[j]? = w.heap[j]? := by
  have hS3 : MapIs bpV (((w.alloc (.cells #[.map (some r1), .map (some r2)] 74)).alloc (.cells #[.int .u8 (u.toNat : Int), .int .u8 (t.toNat : Int)] 122)).alloc (.cells #[.int .u8 (u.toNat : Int), .int .u8 (s.toNat : Int)] 124)) r1 S := hS.below (B := w.heap.size) (below_a3 _ _ _ _) hS.lt
  have hT3 : MapIs bpV (((w.alloc (.cells #[.map (some r1), .map (some r2)] 74)).alloc (.cells #[.int .u8 (u.toNat : Int), .int .u8 (t.toNat : Int)] 122)).alloc (.cells #[.int .u8 (u.toNat : Int), .int .u8 (s.toNat : Int)] 124)) r2 T := hT.below (B := w.heap.size) (below_a3 _ _ _ _) hT.lt
  have hno := Lib.hid hno0
  have hv1 := Lib.hid (see_no hno0).1
  have hb1 := Lib.hid (see_no hno0).2
  have hv2 := Lib.hid (see_yes hT0).1
  have hb2 := Lib.hid (see_yes hT0).2
  have g1 : decide ((t.toNat : Int) < (b.toNat : Int)) = true := decide_eq_true (by omega)
  have hl1 := hS.lt
  have hl2 := hT.lt
  clear hno0 hT0 hS hT
  go_enter Try.func87, Try.ntmps87
  go_wp2_with (first | (at_lookup; refine wpList_look_is rfl _ _ _ 122 5 rfl layKey Try.underlying71 (zero_u8 _) rfl hS3 (u, t) rfl hv1.out hb1.out ?_) | (at_mapUpdate; refine wpList_put_is rfl _ _ _ _ 122 5 rfl layKey Try.underlying71 rfl hS3 (u, t) (byteV s) rfl rfl hno.out ?_))
  intro w4 hS4 hg4
  obtain ⟨k0, k1, k2⟩ := blocks3a w (.cells #[.map (some r1), .map (some r2)] 74) (.cells #[.int .u8 (u.toNat : Int), .int .u8 (t.toNat : Int)] 122) (.cells #[.int .u8 (u.toNat : Int), .int .u8 (s.toNat : Int)] 124)
  have c1 := cell_row12 (own_cell k0 (o := 1) rfl) hg4 (by omega)
  have d0 := cell_row12 (own_cell k2 (o := 0) rfl) hg4 (by omega)
  have d1 := cell_row12 (own_cell k2 (o := 1) rfl) hg4 (by omega)
  have hT4 := map_row12 hT3 hg4 (Ne.symm hr)
  have hb4 : Below B w w4 := ((below_a3 w _ _ _).mono hB).grown hg4 (by simp; omega) (fun j hj => by cases hj; exact hB1)
  have hsz4 := hg4.size
  have hk4 := Lib.hid (fun (j : Nat) (hj : j < w.heap.size) (hn : j ≠ r1) => (hg4.block j (by simp; omega) (fun e => hn (by cases e; rfl))).trans ((below_a3 w _ _ _).block j hj))
  have hlt2 := World.block_lt_of_cell? _ _ d0
  have hlt0 := World.block_lt_of_cell? _ _ c1
  simp only at hlt2 hlt0
  clear k0 k1 k2 hS3 hT3
  have hS4' := Lib.hid hS4
  clear hS4
  go_wp2_with (first | (at_lookup; refine wpList_look_is rfl _ _ _ 124 5 rfl chgKey Try.underlying72 (zero_u8 _) rfl hT4 (u, s) rfl hv2.out hb2.out ?_) | (at_mapUpdate; refine wpList_set_is rfl _ _ _ _ 124 5 rfl chgKey Try.underlying72 rfl hT4 (u, s) (byteV t) rfl rfl (bp_stays _) ?_))
  intro w5 hT5 hg5
  have hS5 := Lib.hid (map_row12 hS4'.out hg5 hr)
  have hT5' := Lib.hid hT5
  have hb5 := Lib.hid (hb4.grown hg5 (Nat.le_trans hB (by have := hb4.size; omega)) (fun j hj => by cases hj; exact hB2))
  have hk5 := Lib.hid (fun (j : Nat) (hj : j < w.heap.size) (hn1 : j ≠ r1) (hn2 : j ≠ r2) => (hg5.block j (by omega) (fun e => hn2 (by cases e; rfl))).trans (hk4.out j hj hn1))
  clear hT5 hg5
  go_wp2
  go_ret
  exact ⟨rfl, hS5.out, hT5'.out, hb5.out, hk5.out⟩
set_option maxRecDepth 100000 in
set_option maxHeartbeats 2400000 in
theorem add_more12 (r1 r2 : Nat) (hr : r1 ≠ r2) (u t s b : UInt8) (S T : List ((UInt8 × UInt8) × Value)) (w : World) (hS : MapIs bpV w r1 S) (hT : MapIs bpV w r2 T) (hno0 : valOf (u, t) S = none) (hT0 : valOf (u, s) T = some (byteV b)) (hlt : ¬ t.toNat < b.toNat) (B : Nat) (hB : B ≤ w.heap.size) (hB1 : B ≤ r1) (hB2 : B ≤ r2) :
    Calls Try.prog 87 #[.agg #[.map (some r1), .map (some r2)], .int .u8 (u.toNat : Int), .int .u8 (t.toNat : Int), .int .u8 (s.toNat : Int)] w fun e w' => e = .returned (.bool true) ∧ MapIs bpV w' r1 (S ++ [((u, t), byteV s)]) ∧ MapIs bpV w' r2 (T) ∧ Below B w w' ∧ ∀ j, j < w.heap.size → j ≠ r1 → j ≠ r2 → w'.heap[j]? = w.heap[j]? := by
  have hS3 : MapIs bpV (((w.alloc (.cells #[.map (some r1), .map (some r2)] 74)).alloc (.cells #[.int .u8 (u.toNat : Int), .int .u8 (t.toNat : Int)] 122)).alloc (.cells #[.int .u8 (u.toNat : Int), .int .u8 (s.toNat : Int)] 124)) r1 S := hS.below (B := w.heap.size) (below_a3 _ _ _ _) hS.lt
  have hT3 : MapIs bpV (((w.alloc (.cells #[.map (some r1), .map (some r2)] 74)).alloc (.cells #[.int .u8 (u.toNat : Int), .int .u8 (t.toNat : Int)] 122)).alloc (.cells #[.int .u8 (u.toNat : Int), .int .u8 (s.toNat : Int)] 124)) r2 T := hT.below (B := w.heap.size) (below_a3 _ _ _ _) hT.lt
  have hno := Lib.hid hno0
  have hv1 := Lib.hid (see_no hno0).1
  have hb1 := Lib.hid (see_no hno0).2
  have hv2 := Lib.hid (see_yes hT0).1
  have hb2 := Lib.hid (see_yes hT0).2
  have g1 : decide ((t.toNat : Int) < (b.toNat : Int)) = false := decide_eq_false (by omega)
  have hl1 := hS.lt
  have hl2 := hT.lt
  clear hno0 hT0 hS hT
  go_enter Try.func87, Try.ntmps87
  go_wp2_with (first | (at_lookup; refine wpList_look_is rfl _ _ _ 122 5 rfl layKey Try.underlying71 (zero_u8 _) rfl hS3 (u, t) rfl hv1.out hb1.out ?_) | (at_mapUpdate; refine wpList_put_is rfl _ _ _ _ 122 5 rfl layKey Try.underlying71 rfl hS3 (u, t) (byteV s) rfl rfl hno.out ?_))
  intro w4 hS4 hg4
  obtain ⟨k0, k1, k2⟩ := blocks3a w (.cells #[.map (some r1), .map (some r2)] 74) (.cells #[.int .u8 (u.toNat : Int), .int .u8 (t.toNat : Int)] 122) (.cells #[.int .u8 (u.toNat : Int), .int .u8 (s.toNat : Int)] 124)
  have c1 := cell_row12 (own_cell k0 (o := 1) rfl) hg4 (by omega)
  have d0 := cell_row12 (own_cell k2 (o := 0) rfl) hg4 (by omega)
  have d1 := cell_row12 (own_cell k2 (o := 1) rfl) hg4 (by omega)
  have hT4 := map_row12 hT3 hg4 (Ne.symm hr)
  have hb4 : Below B w w4 := ((below_a3 w _ _ _).mono hB).grown hg4 (by simp; omega) (fun j hj => by cases hj; exact hB1)
  have hsz4 := hg4.size
  have hk4 := Lib.hid (fun (j : Nat) (hj : j < w.heap.size) (hn : j ≠ r1) => (hg4.block j (by simp; omega) (fun e => hn (by cases e; rfl))).trans ((below_a3 w _ _ _).block j hj))
  have hlt2 := World.block_lt_of_cell? _ _ d0
  have hlt0 := World.block_lt_of_cell? _ _ c1
  simp only at hlt2 hlt0
  clear k0 k1 k2 hS3 hT3
  have hS4' := Lib.hid hS4
  clear hS4
  go_wp2_with (at_lookup; refine wpList_look_is rfl _ _ _ 124 5 rfl chgKey Try.underlying72 (zero_u8 _) rfl hT4 (u, s) rfl hv2.out hb2.out ?_)
  go_ret
  exact ⟨rfl, hS4'.out, hT4, hb4, fun j h1 h2 _ => hk4.out j h1 h2⟩
end Go.Proofs.Ytomnnhmhmehdjaa
