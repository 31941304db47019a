/- What PressFor answers, in the program and in the model. -/
import Derived.Test.YtkdpileflddohaaKbNew
import Derived.Test.YtkdpileflddohaaPressD
namespace Go.Proofs.Ytkdpileflddohaa
open Go.RowKit Go.ChangeMaps Go.MapKept
set_option linter.unusedVariables false
set_option linter.unusedSimpArgs false

def pressFor (ks : List KeyD) (s : ByteArray) : PressD × Int :=
  if validKb ks [] = false then (⟨0, false⟩, 1) else if isLet s = false then (⟨0, false⟩, 2) else match look s (spots 0 ks) with
    | none => (⟨0, false⟩, 3)
    | some p => (⟨(p.idx : Int), p.shift⟩, 0)
theorem ret_pf {r : PressD × Int} {k : Int} {b : Bool} {c : Int} (h : r = (⟨k, b⟩, c)) : Ending.returned (.tuple #[.agg #[.int .i64 k, .bool b], .int .i64 c]) = .returned (.tuple #[.agg #[.int .i64 r.1.key, .bool r.1.shift], .int .i64 r.2]) := by rw [h]
/-- A block of the call's own, as it was laid. -/
theorem own_block {w w1 : World} {cs : Array Value} {t : TypeId} (hb : Below (w.alloc (.cells cs t)).heap.size (w.alloc (.cells cs t)) w1) : w1.heap[w.heap.size]? = some (.cells cs t) := (hb.block _ (by simp)).trans (heap_alloc_new _ _)
theorem own_cell {w1 : World} {R : Nat} {cs : Array Value} {t : TypeId} (h : w1.heap[R]? = some (.cells cs t)) {o : Nat} {u : Value} (ho : cs[o]? = some u) : w1.cell? ⟨R, o, none⟩ = some u := by simp [World.cell?, h, ho]
theorem own_frozen {w1 : World} {R : Nat} {cs : Array Value} {t : TypeId} (h : w1.heap[R]? = some (.cells cs t)) (o : Nat) : w1.frozen? ⟨R, o, none⟩ = false := by simp [World.frozen?, h]
theorem own_lt {w1 : World} {R : Nat} {o : Obj} (h : w1.heap[R]? = some o) : R < w1.heap.size := (Array.getElem?_eq_some_iff.1 h).1
theorem cell_step {w w' : World} {p : Addr} {u : Value} (h : w.cell? p = some u) (hb : Below w.heap.size w w') : w'.cell? p = some u := (hb.cell (World.block_lt_of_cell? w p h)).trans h
theorem set2 {w : World} {R : Nat} {v0 v1 a b : Value} (L0 : w.cell? ⟨R, 0, none⟩ = some v0) (L1 : w.cell? ⟨R, 1, none⟩ = some v1) :
    ((w.setCell ⟨R, 0, none⟩ a).setCell ⟨R, 1, none⟩ b).cell? ⟨R, 0, none⟩ = some a ∧ ((w.setCell ⟨R, 0, none⟩ a).setCell ⟨R, 1, none⟩ b).cell? ⟨R, 1, none⟩ = some b := by
  have d01 : (⟨R, 0, none⟩ : Addr) ≠ ⟨R, 1, none⟩ := fun e => by cases e
  refine ⟨?_, ?_⟩
  · rw [World.cell?_setCell_other _ _ _ _ d01.symm]
    exact World.cell?_setCell_same _ _ _ L0
  · exact World.cell?_setCell_same _ _ _ ((World.cell?_setCell_other _ _ _ _ d01).trans L1)

set_option maxRecDepth 100000 in
set_option maxHeartbeats 1600000 in
theorem pressFor_impl (A : Option Addr) (n c : Nat) (ks : List KeyD) (s : ByteArray) (w : World) (h : Keys w A n ks) (hn : n ≤ 1048576) (hgk : ∀ x ∈ ks, x.good) (hs : s.size ≤ 1048576) :
    Calls Try.prog 23 #[.slice A n c, .string s] w fun e w' => e = .returned (.tuple #[.agg #[.int .i64 (pressFor ks s).1.key, .bool (pressFor ks s).1.shift], .int .i64 (pressFor ks s).2]) ∧ Below w.heap.size w w' := by
  cases hv : validKb ks [] with
  | false =>
    have hres : Hid (pressFor ks s = (⟨0, false⟩, 1)) := Lib.hid (by unfold pressFor; rw [if_pos hv])
    have hkb := Lib.hid (kb_no A none n c 0 0 ks [] (w.alloc (.cells #[.int .i64 0, .bool false] 37)) (h.below (below_a1 _ _)) SRow.nil_ hn (by omega) hgk (fun x hx => by cases hx) hv)
    clear hv
    go_enter Try.func23, Try.ntmps23
    go_wp2_with fail
    refine hkb.out.mono ?_
    rintro e w1 ⟨x1, x2, x3, rfl, hb⟩
    have ho := own_block hb
    have L0 := own_cell ho (o := 0) rfl
    have L1 := own_cell ho (o := 1) rfl
    have F0 := own_frozen ho 0
    have F1 := own_frozen ho 1
    have hlt := own_lt ho
    clear ho
    go_wp2
    obtain ⟨z0, z1⟩ := set2 (a := .int .i64 0) (b := .bool false) L0 L1
    have hbz : Below w.heap.size w ((w1.setCell ⟨w.heap.size, 0, none⟩ (.int .i64 0)).setCell ⟨w.heap.size, 1, none⟩ (.bool false)) := ((((below_a1 w _).trans (hb.mono (by simp))).setCell (Nat.le_refl _) _).setCell (Nat.le_refl _) _)
    have hlz : w.heap.size < ((w1.setCell ⟨w.heap.size, 0, none⟩ (.int .i64 0)).setCell ⟨w.heap.size, 1, none⟩ (.bool false)).heap.size := by simpa [World.setCell] using hlt
    generalize ((w1.setCell ⟨w.heap.size, 0, none⟩ (.int .i64 0)).setCell ⟨w.heap.size, 1, none⟩ (.bool false)) = wz at *
    refine bodyPost_ret (v := .tuple #[.agg #[.int .i64 0, .bool false], .int .i64 1]) (by simp [results, Try.results23, go_sem, z0, z1, hlz]) rfl ?_
    exact ⟨ret_pf hres.out, hbz.alloc (Nat.le_of_lt hlz) _⟩
  | true =>
    have hkb := Lib.hid (kb_yes A none n c 0 0 ks [] (w.alloc (.cells #[.int .i64 0, .bool false] 37)) (h.below (below_a1 _ _)) SRow.nil_ hn (by omega) hgk (fun x hx => by cases hx) hv)
    have hs' : s.size ≤ maxLen := by unfold maxLen; omega
    cases hl : isLet s with
    | false =>
      have hres : Hid (pressFor ks s = (⟨0, false⟩, 2)) := Lib.hid (by unfold pressFor; rw [if_neg (by simp [hv]), if_pos hl])
      clear hv
      replace hl := Lib.hid hl
      go_enter Try.func23, Try.ntmps23
      go_wp2_with fail
      refine hkb.out.mono ?_
      rintro e w1 ⟨r1, r2, r3, rfl, hb, hk⟩
      have ho := own_block hb
      have L0 := own_cell ho (o := 0) rfl
      have L1 := own_cell ho (o := 1) rfl
      have F0 := own_frozen ho 0
      have F1 := own_frozen ho 1
      have hlt := own_lt ho
      clear ho
      clear hk
      go_wp2_with (go_at_call 70; refine (isLetter_any s _ hl.out _ hs').mono ?_; rintro e w' ⟨rfl, rfl⟩)
      obtain ⟨z0, z1⟩ := set2 (a := .int .i64 0) (b := .bool false) L0 L1
      have hbz : Below w.heap.size w ((w1.setCell ⟨w.heap.size, 0, none⟩ (.int .i64 0)).setCell ⟨w.heap.size, 1, none⟩ (.bool false)) := ((((below_a1 w _).trans (hb.mono (by simp))).setCell (Nat.le_refl _) _).setCell (Nat.le_refl _) _)
      have hlz : w.heap.size < ((w1.setCell ⟨w.heap.size, 0, none⟩ (.int .i64 0)).setCell ⟨w.heap.size, 1, none⟩ (.bool false)).heap.size := by simpa [World.setCell] using hlt
      generalize ((w1.setCell ⟨w.heap.size, 0, none⟩ (.int .i64 0)).setCell ⟨w.heap.size, 1, none⟩ (.bool false)) = wz at *
      refine bodyPost_ret (v := .tuple #[.agg #[.int .i64 0, .bool false], .int .i64 2]) (by simp [results, Try.results23, go_sem, z0, z1, hlz]) rfl ?_
      exact ⟨ret_pf hres.out, hbz.alloc (Nat.le_of_lt hlz) _⟩
    | true =>
      cases ho1 : look s (spots 0 ks) with
      | none =>
        have hres : Hid (pressFor ks s = (⟨0, false⟩, 3)) := Lib.hid (by unfold pressFor; rw [if_neg (by simp [hv]), if_neg (by simp [hl]), ho1])
        have hval : Hid ((valOf s (spotL (spots 0 ks))).getD (.agg #[.int .i64 0, .bool false, .bool false]) = .agg #[.int .i64 0, .bool false, .bool false]) := Lib.hid (by rw [val_spot, ho1]; rfl)
        have hok : Hid ((valOf s (spotL (spots 0 ks))).isSome = false) := Lib.hid (by rw [val_spot, ho1]; rfl)
        clear hv ho1
        replace hl := Lib.hid hl
        go_enter Try.func23, Try.ntmps23
        go_wp2_with fail
        refine hkb.out.mono ?_
        rintro e w1 ⟨r1, r2, r3, rfl, hb, hk⟩
        have ho := own_block hb
        have L0 := own_cell ho (o := 0) rfl
        have L1 := own_cell ho (o := 1) rfl
        have F0 := own_frozen ho 0
        have F1 := own_frozen ho 1
        have hlt := own_lt ho
        clear ho
        go_wp2_with (first | (go_at_call 70; refine (isLetter_any s _ hl.out _ hs').mono ?_; rintro e w' ⟨rfl, rfl⟩) | (at_lookup; refine wpList_look_is rfl _ _ _ 9 106 rfl strKey Try.underlying76 (zero_spot _) rfl (hk.1.on _) s rfl hval.out hok.out ?_))
        obtain ⟨z0, z1⟩ := set2 (a := .int .i64 0) (b := .bool false) L0 L1
        have hbz : Below w.heap.size w ((w1.setCell ⟨w.heap.size, 0, none⟩ (.int .i64 0)).setCell ⟨w.heap.size, 1, none⟩ (.bool false)) := ((((below_a1 w _).trans (hb.mono (by simp))).setCell (Nat.le_refl _) _).setCell (Nat.le_refl _) _)
        have hlz : w.heap.size < ((w1.setCell ⟨w.heap.size, 0, none⟩ (.int .i64 0)).setCell ⟨w.heap.size, 1, none⟩ (.bool false)).heap.size := by simpa [World.setCell] using hlt
        generalize ((w1.setCell ⟨w.heap.size, 0, none⟩ (.int .i64 0)).setCell ⟨w.heap.size, 1, none⟩ (.bool false)) = wz at *
        refine bodyPost_ret (v := .tuple #[.agg #[.int .i64 0, .bool false], .int .i64 3]) (by simp [results, Try.results23, go_sem, z0, z1, hlz, Nat.lt_succ_of_lt hlz]) rfl ?_
        exact ⟨ret_pf hres.out, (hbz.alloc (Nat.le_of_lt hlz) _).alloc (by simp; omega) _⟩
      | some p =>
        have hres : Hid (pressFor ks s = (⟨(p.idx : Int), p.shift⟩, 0)) := Lib.hid (by unfold pressFor; rw [if_neg (by simp [hv]), if_neg (by simp [hl]), ho1])
        have hval : Hid ((valOf s (spotL (spots 0 ks))).getD (.agg #[.int .i64 0, .bool false, .bool false]) = .agg #[.int .i64 (p.idx : Int), .bool p.shift, .bool p.dead]) := Lib.hid (by rw [val_spot, ho1]; rfl)
        have hok : Hid ((valOf s (spotL (spots 0 ks))).isSome = true) := Lib.hid (by rw [val_spot, ho1]; rfl)
        clear hv ho1
        replace hl := Lib.hid hl
        go_enter Try.func23, Try.ntmps23
        go_wp2_with fail
        refine hkb.out.mono ?_
        rintro e w1 ⟨r1, r2, r3, rfl, hb, hk⟩
        have ho := own_block hb
        have L0 := own_cell ho (o := 0) rfl
        have L1 := own_cell ho (o := 1) rfl
        have F0 := own_frozen ho 0
        have F1 := own_frozen ho 1
        have hlt := own_lt ho
        clear ho
        go_wp2_with (first | (go_at_call 70; refine (isLetter_any s _ hl.out _ hs').mono ?_; rintro e w' ⟨rfl, rfl⟩) | (at_lookup; refine wpList_look_is rfl _ _ _ 9 106 rfl strKey Try.underlying76 (zero_spot _) rfl (hk.1.on _) s rfl hval.out hok.out ?_))
        obtain ⟨z0, z1⟩ := set2 (a := .int .i64 (p.idx : Int)) (b := .bool p.shift) L0 L1
        have hbz : Below w.heap.size w ((w1.setCell ⟨w.heap.size, 0, none⟩ (.int .i64 (p.idx : Int))).setCell ⟨w.heap.size, 1, none⟩ (.bool p.shift)) := ((((below_a1 w _).trans (hb.mono (by simp))).setCell (Nat.le_refl _) _).setCell (Nat.le_refl _) _)
        have hlz : w.heap.size < ((w1.setCell ⟨w.heap.size, 0, none⟩ (.int .i64 (p.idx : Int))).setCell ⟨w.heap.size, 1, none⟩ (.bool p.shift)).heap.size := by simpa [World.setCell] using hlt
        generalize ((w1.setCell ⟨w.heap.size, 0, none⟩ (.int .i64 (p.idx : Int))).setCell ⟨w.heap.size, 1, none⟩ (.bool p.shift)) = wz at *
        refine bodyPost_ret (v := .tuple #[.agg #[.int .i64 (p.idx : Int), .bool p.shift], .int .i64 0]) (by simp [results, Try.results23, go_sem, z0, z1, hlz, Nat.lt_succ_of_lt hlz]) rfl ?_
        exact ⟨ret_pf hres.out, (hbz.alloc (Nat.le_of_lt hlz) _).alloc (by simp; omega) _⟩


set_option maxRecDepth 100000 in
set_option maxHeartbeats 1600000 in
theorem pressFor_spec (A : Option Addr) (n c : Nat) (ks : List KeyD) (s : ByteArray) (w : World) (h : Keys w A n ks) (hn : n ≤ 1048576) (hgk : ∀ x ∈ ks, x.good) (hs : s.size ≤ 1048576) :
    Calls Try.prog 24 #[.slice A n n, .string s] w fun e w' => e = .returned (.tuple #[.agg #[.int .i64 (pressFor ks s).1.key, .bool (pressFor ks s).1.shift], .int .i64 (pressFor ks s).2]) ∧ Below w.heap.size w w' := by
  have hs' : s.size ≤ maxLen := by unfold maxLen; omega
  have hE := (below_a2 w (.cells #[.int .i64 0, .bool false] 37) (.cells #[] 99))
  have hok := Lib.hid (ok_keys A (some ⟨w.heap.size + 1, 0, none⟩) n n 0 0 ks [] _ (h.below hE) SRow.nil_ hn (by omega) (Nat.le_refl _) hgk (fun x hx => by cases hx))
  clear hE
  cases hv : validKb ks [] with
  | false =>
    have hres : Hid (pressFor ks s = (⟨0, false⟩, 1)) := Lib.hid (by unfold pressFor; rw [if_pos hv])
    rw [hv] at hok
    clear hv
    go_enter Try.func24, Try.ntmps24
    go_wp2_with fail
    refine hok.out.mono ?_
    rintro e w1 ⟨rfl, hb0⟩
    have hb : Below (w.alloc (.cells #[.int .i64 0, .bool false] 37)).heap.size (w.alloc (.cells #[.int .i64 0, .bool false] 37)) w1 := (below_a1 _ _).trans (hb0.mono (by simp))
    have hK1 := h.below ((below_a1 w (.cells #[.int .i64 0, .bool false] 37)).trans (hb.mono (by simp)))
    have ho := own_block hb
    have L0 := own_cell ho (o := 0) rfl
    have L1 := own_cell ho (o := 1) rfl
    have F0 := own_frozen ho 0
    have F1 := own_frozen ho 1
    clear ho hb0
    clear hK1
    go_wp2
    obtain ⟨z0, z1⟩ := set2 (a := .int .i64 0) (b := .bool false) L0 L1
    have hbz : Below w.heap.size w ((w1.setCell ⟨w.heap.size, 0, none⟩ (.int .i64 0)).setCell ⟨w.heap.size, 1, none⟩ (.bool false)) := ((((below_a1 w _).trans (hb.mono (by simp))).setCell (Nat.le_refl _) _).setCell (Nat.le_refl _) _)
    generalize ((w1.setCell ⟨w.heap.size, 0, none⟩ (.int .i64 0)).setCell ⟨w.heap.size, 1, none⟩ (.bool false)) = wz at *
    refine bodyPost_ret (v := .tuple #[.agg #[.int .i64 0, .bool false], .int .i64 1]) (by simp [results, Try.results24, go_sem, z0, z1]) rfl ?_
    exact ⟨ret_pf hres.out, hbz⟩
  | true =>
    rw [hv] at hok
    cases hl : isLet s with
    | false =>
      have hres : Hid (pressFor ks s = (⟨0, false⟩, 2)) := Lib.hid (by unfold pressFor; rw [if_neg (by simp [hv]), if_pos hl])
      clear hv
      replace hl := Lib.hid hl
      go_enter Try.func24, Try.ntmps24
      go_wp2_with fail
      refine hok.out.mono ?_
      rintro e w1 ⟨rfl, hb0⟩
      have hb : Below (w.alloc (.cells #[.int .i64 0, .bool false] 37)).heap.size (w.alloc (.cells #[.int .i64 0, .bool false] 37)) w1 := (below_a1 _ _).trans (hb0.mono (by simp))
      have hK1 := h.below ((below_a1 w (.cells #[.int .i64 0, .bool false] 37)).trans (hb.mono (by simp)))
      have ho := own_block hb
      have L0 := own_cell ho (o := 0) rfl
      have L1 := own_cell ho (o := 1) rfl
      have F0 := own_frozen ho 0
      have F1 := own_frozen ho 1
      clear ho hb0
      go_wp2_with fail
      refine (letter_spec s _ hl.out _ hs').mono ?_
      rintro e w' ⟨rfl, rfl⟩
      go_wp2
      obtain ⟨z0, z1⟩ := set2 (a := .int .i64 0) (b := .bool false) L0 L1
      have hbz : Below w.heap.size w ((w1.setCell ⟨w.heap.size, 0, none⟩ (.int .i64 0)).setCell ⟨w.heap.size, 1, none⟩ (.bool false)) := ((((below_a1 w _).trans (hb.mono (by simp))).setCell (Nat.le_refl _) _).setCell (Nat.le_refl _) _)
      generalize ((w1.setCell ⟨w.heap.size, 0, none⟩ (.int .i64 0)).setCell ⟨w.heap.size, 1, none⟩ (.bool false)) = wz at *
      refine bodyPost_ret (v := .tuple #[.agg #[.int .i64 0, .bool false], .int .i64 2]) (by simp [results, Try.results24, go_sem, z0, z1]) rfl ?_
      exact ⟨ret_pf hres.out, hbz⟩
    | true =>
      cases ho1 : look s (spots 0 ks) with
      | none =>
        have hres : Hid (pressFor ks s = (⟨0, false⟩, 3)) := Lib.hid (by unfold pressFor; rw [if_neg (by simp [hv]), if_neg (by simp [hl]), ho1])
        clear hv
        replace hl := Lib.hid hl
        replace ho1 := Lib.hid ho1
        go_enter Try.func24, Try.ntmps24
        go_wp2_with fail
        refine hok.out.mono ?_
        rintro e w1 ⟨rfl, hb0⟩
        have hb : Below (w.alloc (.cells #[.int .i64 0, .bool false] 37)).heap.size (w.alloc (.cells #[.int .i64 0, .bool false] 37)) w1 := (below_a1 _ _).trans (hb0.mono (by simp))
        have hK1 := h.below ((below_a1 w (.cells #[.int .i64 0, .bool false] 37)).trans (hb.mono (by simp)))
        have ho := own_block hb
        have L0 := own_cell ho (o := 0) rfl
        have L1 := own_cell ho (o := 1) rfl
        have F0 := own_frozen ho 0
        have F1 := own_frozen ho 1
        clear ho hb0
        go_wp2_with fail
        refine (letter_spec s _ hl.out _ hs').mono ?_
        rintro e w' ⟨rfl, rfl⟩
        go_wp2_with fail
        refine (find_no A n n ks s _ hK1 (by unfold maxLen; omega) ho1.out).mono ?_
        rintro e w' ⟨rfl, rfl⟩
        go_wp2
        obtain ⟨z0, z1⟩ := set2 (a := .int .i64 0) (b := .bool false) L0 L1
        have hbz : Below w.heap.size w ((w1.setCell ⟨w.heap.size, 0, none⟩ (.int .i64 0)).setCell ⟨w.heap.size, 1, none⟩ (.bool false)) := ((((below_a1 w _).trans (hb.mono (by simp))).setCell (Nat.le_refl _) _).setCell (Nat.le_refl _) _)
        generalize ((w1.setCell ⟨w.heap.size, 0, none⟩ (.int .i64 0)).setCell ⟨w.heap.size, 1, none⟩ (.bool false)) = wz at *
        refine bodyPost_ret (v := .tuple #[.agg #[.int .i64 0, .bool false], .int .i64 3]) (by simp [results, Try.results24, go_sem, z0, z1]) rfl ?_
        exact ⟨ret_pf hres.out, hbz⟩
      | some p =>
        have hres : Hid (pressFor ks s = (⟨(p.idx : Int), p.shift⟩, 0)) := Lib.hid (by unfold pressFor; rw [if_neg (by simp [hv]), if_neg (by simp [hl]), ho1])
        have hp0 : decide ((p.idx : Int) < 0) = false := decide_eq_false (by omega)
        clear hv
        replace hl := Lib.hid hl
        replace ho1 := Lib.hid ho1
        go_enter Try.func24, Try.ntmps24
        go_wp2_with fail
        refine hok.out.mono ?_
        rintro e w1 ⟨rfl, hb0⟩
        have hb : Below (w.alloc (.cells #[.int .i64 0, .bool false] 37)).heap.size (w.alloc (.cells #[.int .i64 0, .bool false] 37)) w1 := (below_a1 _ _).trans (hb0.mono (by simp))
        have hK1 := h.below ((below_a1 w (.cells #[.int .i64 0, .bool false] 37)).trans (hb.mono (by simp)))
        have ho := own_block hb
        have L0 := own_cell ho (o := 0) rfl
        have L1 := own_cell ho (o := 1) rfl
        have F0 := own_frozen ho 0
        have F1 := own_frozen ho 1
        clear ho hb0
        go_wp2_with fail
        refine (letter_spec s _ hl.out _ hs').mono ?_
        rintro e w' ⟨rfl, rfl⟩
        go_wp2_with fail
        refine (find_yes A n n ks s _ hK1 (by unfold maxLen; omega) p ho1.out).mono ?_
        rintro e w' ⟨rfl, rfl⟩
        go_wp2
        obtain ⟨z0, z1⟩ := set2 (a := .int .i64 (p.idx : Int)) (b := .bool p.shift) L0 L1
        have hbz : Below w.heap.size w ((w1.setCell ⟨w.heap.size, 0, none⟩ (.int .i64 (p.idx : Int))).setCell ⟨w.heap.size, 1, none⟩ (.bool p.shift)) := ((((below_a1 w _).trans (hb.mono (by simp))).setCell (Nat.le_refl _) _).setCell (Nat.le_refl _) _)
        generalize ((w1.setCell ⟨w.heap.size, 0, none⟩ (.int .i64 (p.idx : Int))).setCell ⟨w.heap.size, 1, none⟩ (.bool p.shift)) = wz at *
        refine bodyPost_ret (v := .tuple #[.agg #[.int .i64 (p.idx : Int), .bool p.shift], .int .i64 0]) (by simp [results, Try.results24, go_sem, z0, z1]) rfl ?_
        exact ⟨ret_pf hres.out, hbz⟩
end Go.Proofs.Ytkdpileflddohaa
