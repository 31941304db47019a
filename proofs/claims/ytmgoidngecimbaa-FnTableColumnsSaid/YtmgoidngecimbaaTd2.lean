/- What is drawn for columns: stops, gaps, numbers. -/
import Derived.Test.YtmgoidngecimbaaTd1
namespace Go.Proofs.Ytmgoidngecimbaa
open Go.RowKit Go.ChangeShapes Go.WideShapes Go.Deep
set_option linter.unusedVariables false
set_option linter.unusedSimpArgs false

def NNOut (w : World) (e : Ending) (w' : World) : Prop :=
  ∃ A n c xs x y, e = .returned (.tuple #[.slice A n c, .int .i64 x, .int .i64 y]) ∧ n ≤ 14 ∧ Ints w' A n xs ∧ (∀ x ∈ xs, intGood x) ∧ intGood x ∧ intGood y ∧ Below w.heap.size w w'
theorem good8_list {xs : List Int} (h : ∀ x ∈ xs, -1 ≤ x ∧ x ≤ 1000) : ∀ x ∈ xs, intGood x := fun x hx => good8 (h x hx).1 (h x hx).2
theorem slit8 (w : World) (T : TypeId) (xs : List ByteArray) (n : Nat) (hn : xs.length = n) : Strs (w.alloc (.cells (xs.map Value.string).toArray T)) (some ⟨w.heap.size, 0, none⟩) n xs := strs_lit w xs T n hn
theorem OStrs.put8 {w : World} {base g n i : Nat} {ps : List ByteArray} (x : ByteArray) (h : OStrs w base (some ⟨g, 0, none⟩) n ps) (hi : i < n) : OStrs (w.setCell ⟨g, i, none⟩ (.string x)) base (some ⟨g, 0, none⟩) n (ps.set i x) := by
  rcases h with ⟨hl, ⟨h0, _⟩ | ⟨g', m, f, h1, hb, hr, hm, hf⟩⟩
  · cases h0
  · cases h1
    refine ⟨by simp [hl], .inr ⟨g, m, _, rfl, hb, hr.set i _, hm, fun j y hy q u hu => ?_⟩⟩
    have hj : j < n := by have := (List.getElem?_eq_some_iff.1 hy).1; simpa [hl] using this
    match q, hu with
    | 0, hu =>
      simp [strC] at hu
      subst hu
      refine ⟨by omega, ?_⟩
      by_cases hij : i = j
      · subst hij
        rw [List.getElem?_set_self (by omega)] at hy
        cases hy
        simp
      · rw [List.getElem?_set_ne hij] at hy
        have := (hf j y hy 0 _ rfl).2
        simp only [Nat.mul_one, Nat.add_zero] at this ⊢
        rw [if_neg (fun h => hij h.symm)]
        exact this
    | q + 1, hu => simp [strC] at hu
theorem OStrs.parts8 {w : World} {base g n i : Nat} {ps : List ByteArray} (h : OStrs w base (some ⟨g, 0, none⟩) n ps) (hi : i < n) : ∃ y, w.cell? ⟨g, i, none⟩ = some (.string y) ∧ w.frozen? ⟨g, i, none⟩ = false ∧ g < w.heap.size ∧ base ≤ g := by
  rcases h with ⟨hl, ⟨h0, _⟩ | ⟨g', m, f, h1, hb, hr, hm, hf⟩⟩
  · cases h0
  · cases h1
    have hx : ps[i]? = some ps[i] := List.getElem?_eq_getElem (by omega)
    obtain ⟨h2, h3⟩ := hf i _ hx 0 _ rfl
    rw [Nat.mul_one, Nat.add_zero] at h2 h3
    have h4 := hr.cell (i := i) h2
    rw [h3] at h4
    exact ⟨_, h4, hr.frozen i, hr.lt, hb⟩
/-- Texts that are short. -/
def shortL (xs : List ByteArray) : Prop := ∀ x ∈ xs, x.size ≤ 100
theorem shortL.snoc {xs : List ByteArray} {x : ByteArray} (h : shortL xs) (hx : x.size ≤ 100) : shortL (xs ++ [x]) := fun y hy => by
  rcases List.mem_append.1 hy with h1 | h1
  · exact h y h1
  · rw [List.mem_singleton] at h1
    subst h1
    exact hx
theorem shortL.set {xs : List ByteArray} {i : Nat} {x : ByteArray} (h : shortL xs) (hx : x.size ≤ 100) : shortL (xs.set i x) := fun y hy => by
  rcases List.mem_or_eq_of_mem_set hy with h1 | rfl
  · exact h y h1
  · exact hx
def shortAll (xs : List ByteArray) : Bool := xs.all fun x => decide (x.size ≤ 100)
theorem shortAll.out {xs : List ByteArray} (h : shortAll xs = true) : shortL xs := fun x hx => of_decide_eq_true (List.all_eq_true.1 h x hx)
set_option maxRecDepth 100000 in
set_option maxHeartbeats 4000000 in
theorem dstops_any (A0 : Option Addr) (n0 c0 : Nat) (ys : List Int) (w : World) (hn0 : n0 ≤ maxLen) (h : Bytes w A0 n0 ys) (hg0 : ∀ x ∈ ys, byteGood x) :
    Calls Try.prog 10 #[.slice A0 n0 c0] w (NNOut w) := by
  have hfr := Lib.hid (from_any A0 n0 c0 ys w hn0 h hg0)
  clear h hg0 hn0
  go_enter Try.func10, Try.ntmps10
  go_wp2_with fail
  refine hfr.out.mono ?_
  rintro e w1 ⟨rfl, hs1, hb1⟩
  have hz1 := hs1.lt
  have hd1 : Hid (Drawn w.heap.size w.heap.size w w1) := Lib.hid ⟨hb1.os, hb1.tape, hb1.output, hb1.size, fun k h1 _ => hb1.block k h1⟩
  clear hfr hb1
  have hdr := Lib.hid (l08widths_any _ 0 w1 hs1 (by omega))
  clear hs1
  go_wp2_with fail
  refine hdr.out.mono ?_
  rintro e w2 ⟨A, n, c, xs, rfl, hn, hO, hgd, hs2, hd2⟩
  replace hs2 := hs2.mono (show 0 + 80 ≤ 80 by omega)
  have hd02 := Lib.hid (hd1.out.trans (hd2.down (by omega)))
  have hne : Hid (∀ p, A = some p → p.block ≠ w.heap.size) := Lib.hid (fun p hp => by have := hO.own p hp; omega)
  have hI := Lib.hid hO.srow
  have hz2 := hd02.out.size
  replace hgd := Lib.hid hgd
  clear hdr hO hd2 hd1
  have hp1 := Lib.hid (pick_any _ _ 20 w2 hs2 (by omega) (by omega))
  clear hs2
  go_wp2_with fail
  refine hp1.out.mono ?_
  rintro e wa1 ⟨l, rfl, l0, l1, _, hs1, hg1⟩
  replace hI := Lib.hid (hI.out.youngR hg1 (fun p hp q => hne.out p hp (Option.some.inj q).symm))
  have hd1 := Lib.hid (hd02.out.pick hg1 (by omega))
  have hz1 := hd1.out.size
  have hy1 := hs1.lt
  clear hg1 hp1 hd02
  replace l1 := l1 (by omega)
  have hrl : -1 ≤ l ∧ l ≤ 121 := by omega
  clear l0 l1
  have hp2 := Lib.hid (one_any _ _ 10 wa1 hs1 (by omega) (by omega))
  clear hs1
  go_wp2_with fail
  refine hp2.out.mono ?_
  rintro e wa2 ⟨b, rfl, hs2, hg2⟩
  replace hI := Lib.hid (hI.out.youngR hg2 (fun p hp q => hne.out p hp (Option.some.inj q).symm))
  have hd2 := Lib.hid (hd1.out.pick hg2 (by omega))
  have hz2 := hd2.out.size
  have hy2 := hs2.lt
  clear hg2 hp2 hd1
  cases b with
  | false =>
    have hp3 := Lib.hid (one_any _ _ 10 wa2 hs2 (by omega) (by omega))
    clear hs2
    go_wp2_with fail
    refine hp3.out.mono ?_
    rintro e wa3 ⟨d, rfl, hs3, hg3⟩
    replace hI := Lib.hid (hI.out.youngR hg3 (fun p hp q => hne.out p hp (Option.some.inj q).symm))
    have hd3 := Lib.hid (hd2.out.pick hg3 (by omega))
    have hz3 := hd3.out.size
    have hy3 := hs3.lt
    clear hg3 hp3 hd2
    cases d with
    | false =>
      have hp4 := Lib.hid (pick_any _ _ 6 wa3 hs3 (by omega) (by omega))
      clear hs3
      go_wp2_with fail
      refine hp4.out.mono ?_
      rintro e wa4 ⟨g, rfl, g0, g1, _, hs4, hg4⟩
      replace hI := Lib.hid (hI.out.youngR hg4 (fun p hp q => hne.out p hp (Option.some.inj q).symm))
      have hd4 := Lib.hid (hd3.out.pick hg4 (by omega))
      have hz4 := hd4.out.size
      have hy4 := hs4.lt
      clear hg4 hp4 hd3
      replace g1 := g1 (by omega)
      have hw : IntKind.i64.wrap (1 + g) = 1 + g := IntWalk.i64_in _ (by omega)
      have hgx : Hid (intGood l) := Lib.hid (good8 (by omega) (by omega))
      have hgy : Hid (intGood (1 + g)) := Lib.hid (good8 (by omega) (by omega))
      have hbb := Lib.hid (hd4.out.own (Nat.le_refl _))
      clear hd4 hs4
      go_wp2
      go_ret3
      exact ⟨A, n, c, xs, l, 1 + g, rfl, hn, hI.out, hgd.out, hgx.out, hgy.out, hbb.out⟩
    | true =>
      have hb5 := below_a1 wa3 (.cells #[.int .i64 0, .int .i64 1, .int .i64 120, .int .i64 121] 2)
      have hl5 := (show Ints (wa3.alloc (.cells #[.int .i64 0, .int .i64 1, .int .i64 120, .int .i64 121] 2)) (some ⟨wa3.heap.size, 0, none⟩) 4 [0, 1, 120, 121] from lit8 wa3 2 [0, 1, 120, 121] 4 rfl)
      have hs5 := hs3.below hb5
      have hd5 := Lib.hid (hd3.out.below hb5 (by omega))
      have hz5 := hd5.out.size
      replace hI := Lib.hid (hI.out.below hb5)
      have hn5 : ∀ p : Addr, (some ⟨wa3.heap.size, 0, none⟩ : Option Addr) = some p → p.block ≠ w.heap.size := fun p hp => by cases hp; simp only; omega
      clear hb5 hs3 hd3
      have hp6 := Lib.hid (among_any _ _ _ 4 4 _ _ hs5 (by omega) hl5 (by omega) (by omega) hn5)
      clear hs5
      go_wp2_with fail
      refine hp6.out.mono ?_
      rintro e wa6 ⟨g, gm, rfl, hs6, hg6⟩
      replace hI := Lib.hid (hI.out.youngR hg6 (fun p hp q => hne.out p hp (Option.some.inj q).symm))
      have hd6 := Lib.hid (hd5.out.pick hg6 (by omega))
      have hz6 := hd6.out.size
      have hy6 := hs6.lt
      clear hg6 hp6 hd5
      have hgx : Hid (intGood l) := Lib.hid (good8 (by omega) (by omega))
      have hgy : Hid (intGood g) := Lib.hid (by
        simp only [List.mem_cons, List.not_mem_nil, or_false] at gm
        rcases gm with rfl | rfl | rfl | rfl <;> exact good8 (by omega) (by omega))
      clear gm
      have hbb := Lib.hid (hd6.out.own (Nat.le_refl _))
      clear hd6 hs6
      go_wp2
      go_ret3
      exact ⟨A, n, c, xs, l, g, rfl, hn, hI.out, hgd.out, hgx.out, hgy.out, hbb.out⟩
  | true =>
    have hb7 := below_a1 wa2 (.cells #[.int .i64 (-1), .int .i64 0, .int .i64 119, .int .i64 120] 2)
    have hl7 := (show Ints (wa2.alloc (.cells #[.int .i64 (-1), .int .i64 0, .int .i64 119, .int .i64 120] 2)) (some ⟨wa2.heap.size, 0, none⟩) 4 [-1, 0, 119, 120] from lit8 wa2 2 [-1, 0, 119, 120] 4 rfl)
    have hs7 := hs2.below hb7
    have hd7 := Lib.hid (hd2.out.below hb7 (by omega))
    have hz7 := hd7.out.size
    replace hI := Lib.hid (hI.out.below hb7)
    have hn7 : ∀ p : Addr, (some ⟨wa2.heap.size, 0, none⟩ : Option Addr) = some p → p.block ≠ w.heap.size := fun p hp => by cases hp; simp only; omega
    clear hb7 hs2 hd2
    have hp8 := Lib.hid (among_any _ _ _ 4 4 _ _ hs7 (by omega) hl7 (by omega) (by omega) hn7)
    clear hs7
    go_wp2_with fail
    refine hp8.out.mono ?_
    rintro e wa8 ⟨z, zm, rfl, hs8, hg8⟩
    replace hI := Lib.hid (hI.out.youngR hg8 (fun p hp q => hne.out p hp (Option.some.inj q).symm))
    have hd8 := Lib.hid (hd7.out.pick hg8 (by omega))
    have hz8 := hd8.out.size
    have hy8 := hs8.lt
    clear hg8 hp8 hd7
    have hrz : -1 ≤ z ∧ z ≤ 121 := by
      simp only [List.mem_cons, List.not_mem_nil, or_false] at zm
      rcases zm with rfl | rfl | rfl | rfl <;> omega
    clear zm
    have hp9 := Lib.hid (one_any _ _ 10 wa8 hs8 (by omega) (by omega))
    clear hs8
    go_wp2_with fail
    refine hp9.out.mono ?_
    rintro e wa9 ⟨d, rfl, hs9, hg9⟩
    replace hI := Lib.hid (hI.out.youngR hg9 (fun p hp q => hne.out p hp (Option.some.inj q).symm))
    have hd9 := Lib.hid (hd8.out.pick hg9 (by omega))
    have hz9 := hd9.out.size
    have hy9 := hs9.lt
    clear hg9 hp9 hd8
    cases d with
    | false =>
      have hp10 := Lib.hid (pick_any _ _ 6 wa9 hs9 (by omega) (by omega))
      clear hs9
      go_wp2_with fail
      refine hp10.out.mono ?_
      rintro e wa10 ⟨g, rfl, g0, g1, _, hs10, hg10⟩
      replace hI := Lib.hid (hI.out.youngR hg10 (fun p hp q => hne.out p hp (Option.some.inj q).symm))
      have hd10 := Lib.hid (hd9.out.pick hg10 (by omega))
      have hz10 := hd10.out.size
      have hy10 := hs10.lt
      clear hg10 hp10 hd9
      replace g1 := g1 (by omega)
      have hw : IntKind.i64.wrap (1 + g) = 1 + g := IntWalk.i64_in _ (by omega)
      have hgx : Hid (intGood z) := Lib.hid (good8 (by omega) (by omega))
      have hgy : Hid (intGood (1 + g)) := Lib.hid (good8 (by omega) (by omega))
      have hbb := Lib.hid (hd10.out.own (Nat.le_refl _))
      clear hd10 hs10
      go_wp2
      go_ret3
      exact ⟨A, n, c, xs, z, 1 + g, rfl, hn, hI.out, hgd.out, hgx.out, hgy.out, hbb.out⟩
    | true =>
      have hb11 := below_a1 wa9 (.cells #[.int .i64 0, .int .i64 1, .int .i64 120, .int .i64 121] 2)
      have hl11 := (show Ints (wa9.alloc (.cells #[.int .i64 0, .int .i64 1, .int .i64 120, .int .i64 121] 2)) (some ⟨wa9.heap.size, 0, none⟩) 4 [0, 1, 120, 121] from lit8 wa9 2 [0, 1, 120, 121] 4 rfl)
      have hs11 := hs9.below hb11
      have hd11 := Lib.hid (hd9.out.below hb11 (by omega))
      have hz11 := hd11.out.size
      replace hI := Lib.hid (hI.out.below hb11)
      have hn11 : ∀ p : Addr, (some ⟨wa9.heap.size, 0, none⟩ : Option Addr) = some p → p.block ≠ w.heap.size := fun p hp => by cases hp; simp only; omega
      clear hb11 hs9 hd9
      have hp12 := Lib.hid (among_any _ _ _ 4 4 _ _ hs11 (by omega) hl11 (by omega) (by omega) hn11)
      clear hs11
      go_wp2_with fail
      refine hp12.out.mono ?_
      rintro e wa12 ⟨g, gm, rfl, hs12, hg12⟩
      replace hI := Lib.hid (hI.out.youngR hg12 (fun p hp q => hne.out p hp (Option.some.inj q).symm))
      have hd12 := Lib.hid (hd11.out.pick hg12 (by omega))
      have hz12 := hd12.out.size
      have hy12 := hs12.lt
      clear hg12 hp12 hd11
      have hgx : Hid (intGood z) := Lib.hid (good8 (by omega) (by omega))
      have hgy : Hid (intGood g) := Lib.hid (by
        simp only [List.mem_cons, List.not_mem_nil, or_false] at gm
        rcases gm with rfl | rfl | rfl | rfl <;> exact good8 (by omega) (by omega))
      clear gm
      have hbb := Lib.hid (hd12.out.own (Nat.le_refl _))
      clear hd12 hs12
      go_wp2
      go_ret3
      exact ⟨A, n, c, xs, z, g, rfl, hn, hI.out, hgd.out, hgx.out, hgy.out, hbb.out⟩
set_option maxRecDepth 100000 in
set_option maxHeartbeats 4000000 in
theorem dgap_any (A0 : Option Addr) (n0 c0 : Nat) (ys : List Int) (w : World) (hn0 : n0 ≤ maxLen) (h : Bytes w A0 n0 ys) (hg0 : ∀ x ∈ ys, byteGood x) :
    Calls Try.prog 13 #[.slice A0 n0 c0] w (NNOut w) := by
  have hfr := Lib.hid (from_any A0 n0 c0 ys w hn0 h hg0)
  clear h hg0 hn0
  go_enter Try.func13, Try.ntmps13
  go_wp2_with fail
  refine hfr.out.mono ?_
  rintro e w1 ⟨rfl, hs1, hb1⟩
  have hz1 := hs1.lt
  have hd1 : Hid (Drawn w.heap.size w.heap.size w w1) := Lib.hid ⟨hb1.os, hb1.tape, hb1.output, hb1.size, fun k h1 _ => hb1.block k h1⟩
  clear hfr hb1
  have hdr := Lib.hid (l08widths_any _ 0 w1 hs1 (by omega))
  clear hs1
  go_wp2_with fail
  refine hdr.out.mono ?_
  rintro e w2 ⟨A, n, c, xs, rfl, hn, hO, hgd, hs2, hd2⟩
  replace hs2 := hs2.mono (show 0 + 80 ≤ 80 by omega)
  have hd02 := Lib.hid (hd1.out.trans (hd2.down (by omega)))
  have hne : Hid (∀ p, A = some p → p.block ≠ w.heap.size) := Lib.hid (fun p hp => by have := hO.own p hp; omega)
  have hI := Lib.hid hO.srow
  have hz2 := hd02.out.size
  replace hgd := Lib.hid hgd
  clear hdr hO hd2 hd1
  have hp13 := Lib.hid (pick_any _ _ 20 w2 hs2 (by omega) (by omega))
  clear hs2
  go_wp2_with fail
  refine hp13.out.mono ?_
  rintro e wa13 ⟨l, rfl, l0, l1, _, hs13, hg13⟩
  replace hI := Lib.hid (hI.out.youngR hg13 (fun p hp q => hne.out p hp (Option.some.inj q).symm))
  have hd13 := Lib.hid (hd02.out.pick hg13 (by omega))
  have hz13 := hd13.out.size
  have hy13 := hs13.lt
  clear hg13 hp13 hd02
  replace l1 := l1 (by omega)
  have hrl : -1 ≤ l ∧ l ≤ 121 := by omega
  clear l0 l1
  have hp14 := Lib.hid (one_any _ _ 10 wa13 hs13 (by omega) (by omega))
  clear hs13
  go_wp2_with fail
  refine hp14.out.mono ?_
  rintro e wa14 ⟨b, rfl, hs14, hg14⟩
  replace hI := Lib.hid (hI.out.youngR hg14 (fun p hp q => hne.out p hp (Option.some.inj q).symm))
  have hd14 := Lib.hid (hd13.out.pick hg14 (by omega))
  have hz14 := hd14.out.size
  have hy14 := hs14.lt
  clear hg14 hp14 hd13
  cases b with
  | false =>
    have hp15 := Lib.hid (one_any _ _ 10 wa14 hs14 (by omega) (by omega))
    clear hs14
    go_wp2_with fail
    refine hp15.out.mono ?_
    rintro e wa15 ⟨d, rfl, hs15, hg15⟩
    replace hI := Lib.hid (hI.out.youngR hg15 (fun p hp q => hne.out p hp (Option.some.inj q).symm))
    have hd15 := Lib.hid (hd14.out.pick hg15 (by omega))
    have hz15 := hd15.out.size
    have hy15 := hs15.lt
    clear hg15 hp15 hd14
    cases d with
    | false =>
      have hp16 := Lib.hid (pick_any _ _ 80 wa15 hs15 (by omega) (by omega))
      clear hs15
      go_wp2_with fail
      refine hp16.out.mono ?_
      rintro e wa16 ⟨g, rfl, g0, g1, _, hs16, hg16⟩
      replace hI := Lib.hid (hI.out.youngR hg16 (fun p hp q => hne.out p hp (Option.some.inj q).symm))
      have hd16 := Lib.hid (hd15.out.pick hg16 (by omega))
      have hz16 := hd16.out.size
      have hy16 := hs16.lt
      clear hg16 hp16 hd15
      replace g1 := g1 (by omega)
      have hw : IntKind.i64.wrap (l + g) = l + g := IntWalk.i64_in _ (by omega)
      have hgx : Hid (intGood l) := Lib.hid (good8 (by omega) (by omega))
      have hgy : Hid (intGood (l + g)) := Lib.hid (good8 (by omega) (by omega))
      have hbb := Lib.hid (hd16.out.own (Nat.le_refl _))
      clear hd16 hs16
      go_wp2
      go_ret3
      exact ⟨A, n, c, xs, l, l + g, rfl, hn, hI.out, hgd.out, hgx.out, hgy.out, hbb.out⟩
    | true =>
      have hb17 := below_a1 wa15 (.cells #[.int .i64 (-1), .int .i64 l, .int .i64 120, .int .i64 121] 2)
      have hl17 := (show Ints (wa15.alloc (.cells #[.int .i64 (-1), .int .i64 l, .int .i64 120, .int .i64 121] 2)) (some ⟨wa15.heap.size, 0, none⟩) 4 [-1, l, 120, 121] from lit8 wa15 2 [-1, l, 120, 121] 4 rfl)
      have hs17 := hs15.below hb17
      have hd17 := Lib.hid (hd15.out.below hb17 (by omega))
      have hz17 := hd17.out.size
      replace hI := Lib.hid (hI.out.below hb17)
      have hn17 : ∀ p : Addr, (some ⟨wa15.heap.size, 0, none⟩ : Option Addr) = some p → p.block ≠ w.heap.size := fun p hp => by cases hp; simp only; omega
      clear hb17 hs15 hd15
      have hp18 := Lib.hid (among_any _ _ _ 4 4 _ _ hs17 (by omega) hl17 (by omega) (by omega) hn17)
      clear hs17
      go_wp2_with fail
      refine hp18.out.mono ?_
      rintro e wa18 ⟨g, gm, rfl, hs18, hg18⟩
      replace hI := Lib.hid (hI.out.youngR hg18 (fun p hp q => hne.out p hp (Option.some.inj q).symm))
      have hd18 := Lib.hid (hd17.out.pick hg18 (by omega))
      have hz18 := hd18.out.size
      have hy18 := hs18.lt
      clear hg18 hp18 hd17
      have hgx : Hid (intGood l) := Lib.hid (good8 (by omega) (by omega))
      have hgy : Hid (intGood g) := Lib.hid (by
        simp only [List.mem_cons, List.not_mem_nil, or_false] at gm
        rcases gm with rfl | rfl | rfl | rfl <;> exact good8 (by omega) (by omega))
      clear gm
      have hbb := Lib.hid (hd18.out.own (Nat.le_refl _))
      clear hd18 hs18
      go_wp2
      go_ret3
      exact ⟨A, n, c, xs, l, g, rfl, hn, hI.out, hgd.out, hgx.out, hgy.out, hbb.out⟩
  | true =>
    have hb19 := below_a1 wa14 (.cells #[.int .i64 (-1), .int .i64 0, .int .i64 120, .int .i64 121] 2)
    have hl19 := (show Ints (wa14.alloc (.cells #[.int .i64 (-1), .int .i64 0, .int .i64 120, .int .i64 121] 2)) (some ⟨wa14.heap.size, 0, none⟩) 4 [-1, 0, 120, 121] from lit8 wa14 2 [-1, 0, 120, 121] 4 rfl)
    have hs19 := hs14.below hb19
    have hd19 := Lib.hid (hd14.out.below hb19 (by omega))
    have hz19 := hd19.out.size
    replace hI := Lib.hid (hI.out.below hb19)
    have hn19 : ∀ p : Addr, (some ⟨wa14.heap.size, 0, none⟩ : Option Addr) = some p → p.block ≠ w.heap.size := fun p hp => by cases hp; simp only; omega
    clear hb19 hs14 hd14
    have hp20 := Lib.hid (among_any _ _ _ 4 4 _ _ hs19 (by omega) hl19 (by omega) (by omega) hn19)
    clear hs19
    go_wp2_with fail
    refine hp20.out.mono ?_
    rintro e wa20 ⟨z, zm, rfl, hs20, hg20⟩
    replace hI := Lib.hid (hI.out.youngR hg20 (fun p hp q => hne.out p hp (Option.some.inj q).symm))
    have hd20 := Lib.hid (hd19.out.pick hg20 (by omega))
    have hz20 := hd20.out.size
    have hy20 := hs20.lt
    clear hg20 hp20 hd19
    have hrz : -1 ≤ z ∧ z ≤ 121 := by
      simp only [List.mem_cons, List.not_mem_nil, or_false] at zm
      rcases zm with rfl | rfl | rfl | rfl <;> omega
    clear zm
    have hp21 := Lib.hid (one_any _ _ 10 wa20 hs20 (by omega) (by omega))
    clear hs20
    go_wp2_with fail
    refine hp21.out.mono ?_
    rintro e wa21 ⟨d, rfl, hs21, hg21⟩
    replace hI := Lib.hid (hI.out.youngR hg21 (fun p hp q => hne.out p hp (Option.some.inj q).symm))
    have hd21 := Lib.hid (hd20.out.pick hg21 (by omega))
    have hz21 := hd21.out.size
    have hy21 := hs21.lt
    clear hg21 hp21 hd20
    cases d with
    | false =>
      have hp22 := Lib.hid (pick_any _ _ 80 wa21 hs21 (by omega) (by omega))
      clear hs21
      go_wp2_with fail
      refine hp22.out.mono ?_
      rintro e wa22 ⟨g, rfl, g0, g1, _, hs22, hg22⟩
      replace hI := Lib.hid (hI.out.youngR hg22 (fun p hp q => hne.out p hp (Option.some.inj q).symm))
      have hd22 := Lib.hid (hd21.out.pick hg22 (by omega))
      have hz22 := hd22.out.size
      have hy22 := hs22.lt
      clear hg22 hp22 hd21
      replace g1 := g1 (by omega)
      have hw : IntKind.i64.wrap (z + g) = z + g := IntWalk.i64_in _ (by omega)
      have hgx : Hid (intGood z) := Lib.hid (good8 (by omega) (by omega))
      have hgy : Hid (intGood (z + g)) := Lib.hid (good8 (by omega) (by omega))
      have hbb := Lib.hid (hd22.out.own (Nat.le_refl _))
      clear hd22 hs22
      go_wp2
      go_ret3
      exact ⟨A, n, c, xs, z, z + g, rfl, hn, hI.out, hgd.out, hgx.out, hgy.out, hbb.out⟩
    | true =>
      have hb23 := below_a1 wa21 (.cells #[.int .i64 (-1), .int .i64 z, .int .i64 120, .int .i64 121] 2)
      have hl23 := (show Ints (wa21.alloc (.cells #[.int .i64 (-1), .int .i64 z, .int .i64 120, .int .i64 121] 2)) (some ⟨wa21.heap.size, 0, none⟩) 4 [-1, z, 120, 121] from lit8 wa21 2 [-1, z, 120, 121] 4 rfl)
      have hs23 := hs21.below hb23
      have hd23 := Lib.hid (hd21.out.below hb23 (by omega))
      have hz23 := hd23.out.size
      replace hI := Lib.hid (hI.out.below hb23)
      have hn23 : ∀ p : Addr, (some ⟨wa21.heap.size, 0, none⟩ : Option Addr) = some p → p.block ≠ w.heap.size := fun p hp => by cases hp; simp only; omega
      clear hb23 hs21 hd21
      have hp24 := Lib.hid (among_any _ _ _ 4 4 _ _ hs23 (by omega) hl23 (by omega) (by omega) hn23)
      clear hs23
      go_wp2_with fail
      refine hp24.out.mono ?_
      rintro e wa24 ⟨g, gm, rfl, hs24, hg24⟩
      replace hI := Lib.hid (hI.out.youngR hg24 (fun p hp q => hne.out p hp (Option.some.inj q).symm))
      have hd24 := Lib.hid (hd23.out.pick hg24 (by omega))
      have hz24 := hd24.out.size
      have hy24 := hs24.lt
      clear hg24 hp24 hd23
      have hgx : Hid (intGood z) := Lib.hid (good8 (by omega) (by omega))
      have hgy : Hid (intGood g) := Lib.hid (by
        simp only [List.mem_cons, List.not_mem_nil, or_false] at gm
        rcases gm with rfl | rfl | rfl | rfl <;> exact good8 (by omega) (by omega))
      clear gm
      have hbb := Lib.hid (hd24.out.own (Nat.le_refl _))
      clear hd24 hs24
      go_wp2
      go_ret3
      exact ⟨A, n, c, xs, z, g, rfl, hn, hI.out, hgd.out, hgx.out, hgy.out, hbb.out⟩
/-- A text that is drawn. -/
def TxOut (r t : Nat) (w : World) (e : Ending) (w' : World) : Prop := ∃ x : ByteArray, e = .returned (.string x) ∧ x.size ≤ 100 ∧ SrcAt w' r (t + 2) ∧ Drawn r w.heap.size w w' 
set_option maxRecDepth 100000 in
set_option maxHeartbeats 4000000 in
theorem l08number_any (r t : Nat) (w : World) (h : SrcAt w r t) (ht : t ≤ 1000000) : Calls Try.prog 50 #[.pointer (some ⟨r, 0, none⟩)] w (TxOut r t w) := by
  have hrl := h.lt
  have hb := below_a1 w (.cells #[.string ⟨#[48]⟩, .string ⟨#[49, 50]⟩, .string ⟨#[45, 51]⟩, .string ⟨#[52, 46, 53, 48]⟩, .string ⟨#[49, 48, 48, 46, 48, 53]⟩, .string ⟨#[45, 48, 46, 53]⟩, .string ⟨#[55, 46, 49, 50, 53]⟩, .string ⟨#[49, 50, 51, 52, 53, 54]⟩, .string ⟨#[]⟩, .string ⟨#[45]⟩, .string ⟨#[49, 46]⟩, .string ⟨#[46, 53]⟩, .string ⟨#[49, 46, 50, 46, 51]⟩, .string ⟨#[120]⟩, .string ⟨#[49, 50, 51, 52, 53, 54, 55, 56, 57, 48, 49, 50, 51, 52, 53, 54, 55, 56, 57, 48, 49, 50, 51, 52, 53, 54, 46, 55, 56, 57]⟩, .string ⟨#[49, 50, 51, 52, 53, 54, 55, 56, 57, 48, 49, 50, 51, 52, 53, 54, 55, 56, 57, 48, 49, 50, 51, 52, 53, 54, 55, 46, 56, 57, 48, 49]⟩] 9)
  have hl : Strs (w.alloc (.cells #[.string ⟨#[48]⟩, .string ⟨#[49, 50]⟩, .string ⟨#[45, 51]⟩, .string ⟨#[52, 46, 53, 48]⟩, .string ⟨#[49, 48, 48, 46, 48, 53]⟩, .string ⟨#[45, 48, 46, 53]⟩, .string ⟨#[55, 46, 49, 50, 53]⟩, .string ⟨#[49, 50, 51, 52, 53, 54]⟩, .string ⟨#[]⟩, .string ⟨#[45]⟩, .string ⟨#[49, 46]⟩, .string ⟨#[46, 53]⟩, .string ⟨#[49, 46, 50, 46, 51]⟩, .string ⟨#[120]⟩, .string ⟨#[49, 50, 51, 52, 53, 54, 55, 56, 57, 48, 49, 50, 51, 52, 53, 54, 55, 56, 57, 48, 49, 50, 51, 52, 53, 54, 46, 55, 56, 57]⟩, .string ⟨#[49, 50, 51, 52, 53, 54, 55, 56, 57, 48, 49, 50, 51, 52, 53, 54, 55, 56, 57, 48, 49, 50, 51, 52, 53, 54, 55, 46, 56, 57, 48, 49]⟩] 9)) (some ⟨w.heap.size, 0, none⟩) 16 [⟨#[48]⟩, ⟨#[49, 50]⟩, ⟨#[45, 51]⟩, ⟨#[52, 46, 53, 48]⟩, ⟨#[49, 48, 48, 46, 48, 53]⟩, ⟨#[45, 48, 46, 53]⟩, ⟨#[55, 46, 49, 50, 53]⟩, ⟨#[49, 50, 51, 52, 53, 54]⟩, ⟨#[]⟩, ⟨#[45]⟩, ⟨#[49, 46]⟩, ⟨#[46, 53]⟩, ⟨#[49, 46, 50, 46, 51]⟩, ⟨#[120]⟩, ⟨#[49, 50, 51, 52, 53, 54, 55, 56, 57, 48, 49, 50, 51, 52, 53, 54, 55, 56, 57, 48, 49, 50, 51, 52, 53, 54, 46, 55, 56, 57]⟩, ⟨#[49, 50, 51, 52, 53, 54, 55, 56, 57, 48, 49, 50, 51, 52, 53, 54, 55, 56, 57, 48, 49, 50, 51, 52, 53, 54, 55, 46, 56, 57, 48, 49]⟩] := slit8 w 9 [⟨#[48]⟩, ⟨#[49, 50]⟩, ⟨#[45, 51]⟩, ⟨#[52, 46, 53, 48]⟩, ⟨#[49, 48, 48, 46, 48, 53]⟩, ⟨#[45, 48, 46, 53]⟩, ⟨#[55, 46, 49, 50, 53]⟩, ⟨#[49, 50, 51, 52, 53, 54]⟩, ⟨#[]⟩, ⟨#[45]⟩, ⟨#[49, 46]⟩, ⟨#[46, 53]⟩, ⟨#[49, 46, 50, 46, 51]⟩, ⟨#[120]⟩, ⟨#[49, 50, 51, 52, 53, 54, 55, 56, 57, 48, 49, 50, 51, 52, 53, 54, 55, 56, 57, 48, 49, 50, 51, 52, 53, 54, 46, 55, 56, 57]⟩, ⟨#[49, 50, 51, 52, 53, 54, 55, 56, 57, 48, 49, 50, 51, 52, 53, 54, 55, 56, 57, 48, 49, 50, 51, 52, 53, 54, 55, 46, 56, 57, 48, 49]⟩] 16 rfl
  have hs := h.below hb
  have hd := Lib.hid ((Drawn.refl r w.heap.size w).below hb (Nat.le_refl _))
  have hz := hb.size
  have hne : ∀ p : Addr, (some ⟨w.heap.size, 0, none⟩ : Option Addr) = some p → p.block ≠ r := fun p hp => by cases hp; simp only; omega
  have hsl := Lib.hid (shortAll.out (show shortAll [⟨#[48]⟩, ⟨#[49, 50]⟩, ⟨#[45, 51]⟩, ⟨#[52, 46, 53, 48]⟩, ⟨#[49, 48, 48, 46, 48, 53]⟩, ⟨#[45, 48, 46, 53]⟩, ⟨#[55, 46, 49, 50, 53]⟩, ⟨#[49, 50, 51, 52, 53, 54]⟩, ⟨#[]⟩, ⟨#[45]⟩, ⟨#[49, 46]⟩, ⟨#[46, 53]⟩, ⟨#[49, 46, 50, 46, 51]⟩, ⟨#[120]⟩, ⟨#[49, 50, 51, 52, 53, 54, 55, 56, 57, 48, 49, 50, 51, 52, 53, 54, 55, 56, 57, 48, 49, 50, 51, 52, 53, 54, 46, 55, 56, 57]⟩, ⟨#[49, 50, 51, 52, 53, 54, 55, 56, 57, 48, 49, 50, 51, 52, 53, 54, 55, 56, 57, 48, 49, 50, 51, 52, 53, 54, 55, 46, 56, 57, 48, 49]⟩] = true by decide))
  have hp := Lib.hid (text_any r t _ 16 16 _ _ hs (by omega) hl (by omega) (by omega) hne)
  clear hb hl hs hne h
  go_enter Try.func50, Try.ntmps50
  go_wp2_with fail
  refine hp.out.mono ?_
  rintro e w2 ⟨x, xm, rfl, hs2, hg2⟩
  have hd2 := Lib.hid (hd.out.pick hg2 (by omega))
  have hx := Lib.hid (hsl.out x xm)
  clear hp hg2 hd hsl xm
  go_wp2
  go_ret
  exact ⟨x, rfl, hx.out, hs2, hd2.out⟩
def TNOut (w : World) (e : Ending) (w' : World) : Prop := ∃ (s : ByteArray) (x : Int), e = .returned (.tuple #[.string s, .int .i64 x]) ∧ s.size ≤ 100 ∧ intGood x ∧ Below w.heap.size w w' 
set_option maxRecDepth 100000 in
set_option maxHeartbeats 4000000 in
theorem ddec_any (A0 : Option Addr) (n0 c0 : Nat) (ys : List Int) (w : World) (hn0 : n0 ≤ maxLen) (h : Bytes w A0 n0 ys) (hg0 : ∀ x ∈ ys, byteGood x) :
    Calls Try.prog 19 #[.slice A0 n0 c0] w (TNOut w) := by
  have hfr := Lib.hid (from_any A0 n0 c0 ys w hn0 h hg0)
  clear h hg0 hn0
  go_enter Try.func19, Try.ntmps19
  go_wp2_with fail
  refine hfr.out.mono ?_
  rintro e w1 ⟨rfl, hs1, hb1⟩
  have hz1 := hs1.lt
  have hd1 : Hid (Drawn w.heap.size w.heap.size w w1) := Lib.hid ⟨hb1.os, hb1.tape, hb1.output, hb1.size, fun k h1 _ => hb1.block k h1⟩
  clear hfr hb1
  have hdr := Lib.hid (l08number_any _ 0 w1 hs1 (by omega))
  clear hs1
  go_wp2_with fail
  refine hdr.out.mono ?_
  rintro e w2 ⟨s, rfl, hsz, hs2, hd2⟩
  have hd02 := Lib.hid (hd1.out.trans (hd2.down (by omega)))
  have hz2 := hd02.out.size
  replace hsz := Lib.hid hsz
  clear hdr hd2 hd1
  have hp25 := Lib.hid (one_any _ _ 10 w2 hs2 (by omega) (by omega))
  clear hs2
  go_wp2_with fail
  refine hp25.out.mono ?_
  rintro e wa25 ⟨b, rfl, hs25, hg25⟩
  have hd25 := Lib.hid (hd02.out.pick hg25 (by omega))
  have hz25 := hd25.out.size
  have hy25 := hs25.lt
  clear hg25 hp25 hd02
  cases b with
  | false =>
    have hp26 := Lib.hid (pick_any _ _ 20 wa25 hs25 (by omega) (by omega))
    clear hs25
    go_wp2_with fail
    refine hp26.out.mono ?_
    rintro e wa26 ⟨g, rfl, g0, g1, _, hs26, hg26⟩
    have hd26 := Lib.hid (hd25.out.pick hg26 (by omega))
    have hz26 := hd26.out.size
    have hy26 := hs26.lt
    clear hg26 hp26 hd25
    replace g1 := g1 (by omega)
    have hgy : Hid (intGood g) := Lib.hid (good8 (by omega) (by omega))
    have hbb := Lib.hid (hd26.out.own (Nat.le_refl _))
    clear hd26 hs26
    go_wp2
    go_ret2
    exact ⟨s, g, rfl, hsz.out, hgy.out, hbb.out⟩
  | true =>
    have hb27 := below_a1 wa25 (.cells #[.int .i64 (-1), .int .i64 0, .int .i64 119, .int .i64 120] 2)
    have hl27 := (show Ints (wa25.alloc (.cells #[.int .i64 (-1), .int .i64 0, .int .i64 119, .int .i64 120] 2)) (some ⟨wa25.heap.size, 0, none⟩) 4 [-1, 0, 119, 120] from lit8 wa25 2 [-1, 0, 119, 120] 4 rfl)
    have hs27 := hs25.below hb27
    have hd27 := Lib.hid (hd25.out.below hb27 (by omega))
    have hz27 := hd27.out.size
    have hn27 : ∀ p : Addr, (some ⟨wa25.heap.size, 0, none⟩ : Option Addr) = some p → p.block ≠ w.heap.size := fun p hp => by cases hp; simp only; omega
    clear hb27 hs25 hd25
    have hp28 := Lib.hid (among_any _ _ _ 4 4 _ _ hs27 (by omega) hl27 (by omega) (by omega) hn27)
    clear hs27
    go_wp2_with fail
    refine hp28.out.mono ?_
    rintro e wa28 ⟨g, gm, rfl, hs28, hg28⟩
    have hd28 := Lib.hid (hd27.out.pick hg28 (by omega))
    have hz28 := hd28.out.size
    have hy28 := hs28.lt
    clear hg28 hp28 hd27
    have hgy : Hid (intGood g) := Lib.hid (good8_among gm)
    clear gm
    have hbb := Lib.hid (hd28.out.own (Nat.le_refl _))
    clear hd28 hs28
    go_wp2
    go_ret2
    exact ⟨s, g, rfl, hsz.out, hgy.out, hbb.out⟩
/-- Texts that are drawn. -/
def TsOut (w : World) (e : Ending) (w' : World) : Prop := ∃ A n c xs, e = .returned (.slice A n c) ∧ n ≤ 1000 ∧ Strs w' A n xs ∧ shortL xs ∧ Below w.heap.size w w'
set_option maxRecDepth 100000 in
set_option maxHeartbeats 4000000 in
theorem dalign_any (A0 : Option Addr) (n0 c0 : Nat) (ys : List Int) (w : World) (hn0 : n0 ≤ maxLen) (h : Bytes w A0 n0 ys) (hg0 : ∀ x ∈ ys, byteGood x) :
    Calls Try.prog 16 #[.slice A0 n0 c0] w (TsOut w) := by
  have hfr := Lib.hid (from_any A0 n0 c0 ys w hn0 h hg0)
  clear h hg0 hn0
  go_enter Try.func16, Try.ntmps16
  go_wp2_with fail
  refine hfr.out.mono ?_
  rintro e w1 ⟨rfl, hs1, hb1⟩
  have hz1 := hs1.lt
  have hd1 : Hid (Drawn w.heap.size w.heap.size w w1) := Lib.hid ⟨hb1.os, hb1.tape, hb1.output, hb1.size, fun k h1 _ => hb1.block k h1⟩
  clear hfr hb1
  obtain ⟨i0, hi, hz0', hz1', hz2'⟩ := info_parts Try.infoStr
  have hble := below_a1 w1 (.cells #[] 9)
  have hs2 := hs1.below hble
  have hown := Lib.hid ((empty8 w1 9))
  have hd2 := Lib.hid (hd1.out.below hble (by omega))
  have hz2 := hd2.out.size
  have hz12 := hble.size
  clear hble hs1 hd1
  have hp29 := Lib.hid (pick_any _ _ 6 (w1.alloc (.cells #[] 9)) hs2 (by omega) (by omega))
  clear hs2
  go_wp2_with fail
  refine hp29.out.mono ?_
  rintro e wa29 ⟨x1, rfl, x10, x11, _, hs29, hg29⟩
  have hown2 := Lib.hid (owns_past hown.out hg29 (by omega))
  have hd29 := Lib.hid (hd2.out.pick hg29 (by omega))
  have hz29 := hd29.out.size
  have hzz29 := hg29.size
  clear hg29 hp29 hd2 hown
  replace x11 := x11 (by omega)
  have hp30 := Lib.hid (one_any _ _ 20 wa29 hs29 (by omega) (by omega))
  clear hs29
  go_wp2_with fail
  refine hp30.out.mono ?_
  rintro e wa30 ⟨b, rfl, hs30, hg30⟩
  have hown3 := Lib.hid (owns_past hown2.out hg30 (by omega))
  have hd30 := Lib.hid (hd29.out.pick hg30 (by omega))
  have hz30 := hd30.out.size
  have hzz30 := hg30.size
  clear hg30 hp30 hd29 hown2
  cases b with
  | false =>
    go_wp2
    go_loopw [4, 6] (fun v kv wr => ∃ (L : List ByteArray) (k : Nat), kv = .int .i64 (k : Int) ∧ L.length + k ≤ 41 ∧ x1 = ((L.length + k : Nat) : Int) ∧ shortL L ∧ wr.ownsRow w1.heap.size 9 1 v L.length (L.flatMap strC) ∧ SrcAt wr w.heap.size (8 + 2 * L.length) ∧ Drawn w.heap.size w.heap.size w wr ∧ w1.heap.size ≤ wr.heap.size) (fun _ kv _ => (intOf kv).toNat)
    case atStart =>
      obtain ⟨k2, hk2⟩ : ∃ k : Nat, x1 = (k : Int) := ⟨(x1).toNat, by omega⟩
      exact ⟨[], k2, by rw [hk2], by simp; omega, by simpa using hk2, (fun _ h => by cases h), hown3.out, hs30.mono (by simp), hd30.out, by omega⟩
    case round =>
      rename World => wr
      obtain ⟨L, k, rfl, hLk, hkn, hsh, hrow, hs, hd, hw1r⟩ := hrel
      have hwz := hd.size
      replace hsh := Lib.hid hsh
      replace hkn := Lib.hid hkn
      replace hrow := Lib.hid hrow
      replace hd := Lib.hid hd
      by_cases hk : 0 < k
      · have hg : decide ((0 : Int) < (k : Int)) = true := decide_eq_true (by omega)
        have hb4 := below_a1 wr (.cells #[.string ⟨#[48]⟩, .string ⟨#[49, 50]⟩, .string ⟨#[45, 51]⟩, .string ⟨#[52, 46, 53, 48]⟩, .string ⟨#[49, 48, 48, 46, 48, 53]⟩, .string ⟨#[45, 48, 46, 53]⟩] 9)
        have hl4 : Strs (wr.alloc (.cells #[.string ⟨#[48]⟩, .string ⟨#[49, 50]⟩, .string ⟨#[45, 51]⟩, .string ⟨#[52, 46, 53, 48]⟩, .string ⟨#[49, 48, 48, 46, 48, 53]⟩, .string ⟨#[45, 48, 46, 53]⟩] 9)) (some ⟨wr.heap.size, 0, none⟩) 6 [⟨#[48]⟩, ⟨#[49, 50]⟩, ⟨#[45, 51]⟩, ⟨#[52, 46, 53, 48]⟩, ⟨#[49, 48, 48, 46, 48, 53]⟩, ⟨#[45, 48, 46, 53]⟩] := slit8 wr 9 [⟨#[48]⟩, ⟨#[49, 50]⟩, ⟨#[45, 51]⟩, ⟨#[52, 46, 53, 48]⟩, ⟨#[49, 48, 48, 46, 48, 53]⟩, ⟨#[45, 48, 46, 53]⟩] 6 rfl
        have hs4 := hs.below hb4
        have hd4 := Lib.hid (hd.out.below hb4 (by omega))
        have hrow4 := Lib.hid (hrow.out.alloc (.cells #[.string ⟨#[48]⟩, .string ⟨#[49, 50]⟩, .string ⟨#[45, 51]⟩, .string ⟨#[52, 46, 53, 48]⟩, .string ⟨#[49, 48, 48, 46, 48, 53]⟩, .string ⟨#[45, 48, 46, 53]⟩] 9))
        have hz4 := hb4.size
        have hne4 : ∀ p : Addr, (some ⟨wr.heap.size, 0, none⟩ : Option Addr) = some p → p.block ≠ w.heap.size := fun p hp => by cases hp; simp only; omega
        have hsl4 := Lib.hid (shortAll.out (show shortAll [⟨#[48]⟩, ⟨#[49, 50]⟩, ⟨#[45, 51]⟩, ⟨#[52, 46, 53, 48]⟩, ⟨#[49, 48, 48, 46, 48, 53]⟩, ⟨#[45, 48, 46, 53]⟩] = true by decide))
        have hp4 := Lib.hid (text_any _ _ _ 6 6 _ _ hs4 (by omega) hl4 (by omega) (by omega) hne4)
        clear hb4 hl4 hs4 hne4 hs hd hrow
        go_wp2_with fail
        refine hp4.out.mono ?_
        rintro e w5 ⟨a, am, rfl, hs5, hg5⟩
        have hd5 := Lib.hid (hd4.out.pick hg5 (by omega))
        have hrow5 := owns_past hrow4.out hg5 (by omega)
        have hz5 := hd5.out.size
        have hz55 := hg5.size
        have hsa := hsl4.out a am
        have hln : Hid ((L ++ [a] : List ByteArray).length = L.length + 1) := Lib.hid (by simp)
        have hsh2 := Lib.hid (hsh.out.snoc hsa)
        have hfl := Lib.hid (snoc8s L a)
        replace hs5 := Lib.hid hs5
        have hL41 : L.length ≤ 41 := by omega
        have hlk7 : Hid ((L ++ [a] : List ByteArray).length + (k - 1) = L.length + k) := Lib.hid (by rw [hln.out]; omega)
        clear hg5 hp4 hrow4 hd4 hsl4 am hsa
        have hroq5 := Lib.hid hrow5.lt
        have hbq5 := Lib.hid (below_a1 w5 (.cells #[.string a] 9))
        have hrl5 := Lib.hid hrow5
        clear hrow5
        generalize hpn : L.length = pn at *
        go_wp2_with (at_builtin; refine wpList_append_own _ rfl _ _ 27 rfl w1.heap.size 9 i0 _ 1 16 Try.underlying27 hi hz0' hz1' hz2' rfl (by decide) _ _ _ rfl (hrl5.out.alloc _) ⟨w5.heap.size, 0, none⟩ 1 1 [.string a] rfl rfl (news8 _ _ _) (one8s _) (by unfold maxLen; omega) (by omega) (by simp; omega) ?_)
        intro vq5 wq5 hownq5 hgrq5 hnilq5
        clear hnilq5
        have hs6 := (hs5.out.below hbq5.out).grownO hgrq5 (fun q hq => by have := (hroq5.out q hq).1; omega)
        have hd6 := (hd5.out.below hbq5.out (by omega)).youngO hgrq5 (by simp; omega) (fun q hq => by have := (hroq5.out q hq).1; omega)
        have hzq := hgrq5.size
        have hzq1 := hbq5.out.size
        have hrow6 : Hid (wq5.ownsRow w1.heap.size 9 1 vq5 (L ++ [a] : List ByteArray).length ((L ++ [a] : List ByteArray).flatMap strC)) := Lib.hid (by
          rw [hln.out, hfl.out]
          exact hownq5)
        have hs7 : Hid (SrcAt wq5 w.heap.size (8 + 2 * (L ++ [a] : List ByteArray).length)) := Lib.hid (hs6.mono (by rw [hln.out]; omega))
        have hl7 : Hid ((L ++ [a] : List ByteArray).length + (k - 1) ≤ 41 ∧ x1 = (((L ++ [a] : List ByteArray).length + (k - 1) : Nat) : Int) ∧ w1.heap.size ≤ wq5.heap.size) := Lib.hid (by rw [hlk7.out]; refine ⟨by omega, hkn.out, by omega⟩)
        have hd7 := Lib.hid hd6
        clear hs6 hgrq5 hownq5 hd6 hzq hzq1
        go_wp2
        go_roundw
        case rel => exact ⟨L ++ [a], k - 1, by rw [Int.natCast_sub (by omega)]; rfl, hl7.out.1, hl7.out.2.1, hsh2.out, hrow6.out, hs7.out, hd7.out, hl7.out.2.2⟩
        case measure => simp [intOf]; omega
      · obtain rfl : k = 0 := by omega
        have hg : decide ((0 : Int) < ((0 : Nat) : Int)) = false := rfl
        obtain ⟨A, c, rfl, hO⟩ := owns_s8 rfl hrow.out
        replace hO := Lib.hid hO
        have hkn0 : Hid (x1 = (L.length : Int)) := Lib.hid (by have := hkn.out; rw [Nat.add_zero] at this; exact this)
        clear hkn
        have hL41 : L.length ≤ 41 := by omega
        replace hs := hs.mono (show 8 + 2 * L.length ≤ 100 by omega)
        clear hrow hLk
        generalize hpn : L.length = n at *
        by_cases hpos : 0 < n
        · have hgt : decide ((0 : Int) < x1) = true := decide_eq_true (by have := hkn0.out; omega)
          obtain ⟨g, rfl⟩ : ∃ g, A = some ⟨g, 0, none⟩ := by
            rcases hO.out with ⟨_, ⟨_, h0⟩ | ⟨g, m, f, h1, _⟩⟩
            · omega
            · exact ⟨g, h1⟩
          have hp8 := Lib.hid (one_any _ 100 4 wr hs (by omega) (by omega))
          clear hs
          go_wp2_with fail
          refine hp8.out.mono ?_
          rintro e w8 ⟨b2, rfl, hs8, hg8⟩
          have hO8 : OStrs w8 w1.heap.size (some ⟨g, 0, none⟩) n L := hO.out.block (fun p hp => hg8.block _ (hO.out.lt p hp) (fun e => by have := hO.out.own p hp; have e2 := Option.some.inj e; omega))
          have hd8 := hd.out.pick hg8 (by omega)
          have hz8 := hg8.size
          clear hp8 hg8 hO hd
          cases b2 with
          | false =>
            have hbb := Lib.hid (hd8.own (Nat.le_refl _))
            have hO9 := Lib.hid hO8
            clear hs8 hd8 hO8
            go_wp2
            go_ret
            exact ⟨_, n, c, L, rfl, by omega, hO9.out.srow, hsh.out, hbb.out⟩
          | true =>
            have hp9 := Lib.hid (l08number_any _ _ w8 hs8 (by omega))
            clear hs8
            have hn0 : (0 : Int) < (n : Int) := by omega
            go_wp2_with fail
            refine hp9.out.mono ?_
            rintro e w9 ⟨z, rfl, hzs, hs9, hd9⟩
            have hO9 : OStrs w9 w1.heap.size (some ⟨g, 0, none⟩) n L := hO8.block (fun p hp => hd9.block _ (hO8.lt p hp) (fun e => by have := hO8.own p hp; omega))
            have hz9 := hd9.size
            have hd99 := hd8.trans (hd9.down (by omega))
            obtain ⟨y, p0, p1, p2, p3⟩ := hO9.parts8 hpos
            have hput := Lib.hid (hO9.put8 z hpos)
            have hgg : w9.grownBy (w9.setCell ⟨g, 0, none⟩ (.string z)) (some g) := grown_set
            have hbb := Lib.hid ((hd99.young hgg (by omega) (by omega)).own (Nat.le_refl _))
            have hsh2 := Lib.hid (hsh.out.set (i := 0) hzs)
            clear hp9 hO9 hO8 hd9 hd99 hd8 hs9 hgg hzs
            go_wp2
            go_ret
            exact ⟨_, n, c, L.set 0 z, rfl, by omega, hput.out.srow, hsh2.out, hbb.out⟩
        · have hgt : decide ((0 : Int) < x1) = false := decide_eq_false (by have := hkn0.out; omega)
          have hbb := Lib.hid (hd.out.own (Nat.le_refl _))
          clear hs hd
          go_wp2
          go_ret
          exact ⟨A, n, c, L, rfl, by omega, hO.out.srow, hsh.out, hbb.out⟩
  | true =>
    have hp31 := Lib.hid (pick_any _ _ 2 wa30 hs30 (by omega) (by omega))
    clear hs30
    go_wp2_with fail
    refine hp31.out.mono ?_
    rintro e wa31 ⟨x3, rfl, x30, x31, _, hs31, hg31⟩
    have hown4 := Lib.hid (owns_past hown3.out hg31 (by omega))
    have hd31 := Lib.hid (hd30.out.pick hg31 (by omega))
    have hz31 := hd31.out.size
    have hzz31 := hg31.size
    clear hg31 hp31 hd30 hown3
    replace x31 := x31 (by omega)
    have hw40 : IntKind.i64.wrap (40 + x3) = 40 + x3 := IntWalk.i64_in _ (by omega)
    go_wp2
    go_loopw [4, 6] (fun v kv wr => ∃ (L : List ByteArray) (k : Nat), kv = .int .i64 (k : Int) ∧ L.length + k ≤ 41 ∧ (40 + x3) = ((L.length + k : Nat) : Int) ∧ shortL L ∧ wr.ownsRow w1.heap.size 9 1 v L.length (L.flatMap strC) ∧ SrcAt wr w.heap.size (8 + 2 * L.length) ∧ Drawn w.heap.size w.heap.size w wr ∧ w1.heap.size ≤ wr.heap.size) (fun _ kv _ => (intOf kv).toNat)
    case atStart =>
      obtain ⟨k2, hk2⟩ : ∃ k : Nat, (40 + x3) = (k : Int) := ⟨((40 + x3)).toNat, by omega⟩
      exact ⟨[], k2, by rw [hk2], by simp; omega, by simpa using hk2, (fun _ h => by cases h), hown4.out, hs31.mono (by simp), hd31.out, by omega⟩
    case round =>
      rename World => wr
      obtain ⟨L, k, rfl, hLk, hkn, hsh, hrow, hs, hd, hw1r⟩ := hrel
      have hwz := hd.size
      replace hsh := Lib.hid hsh
      replace hkn := Lib.hid hkn
      replace hrow := Lib.hid hrow
      replace hd := Lib.hid hd
      by_cases hk : 0 < k
      · have hg : decide ((0 : Int) < (k : Int)) = true := decide_eq_true (by omega)
        have hb4 := below_a1 wr (.cells #[.string ⟨#[48]⟩, .string ⟨#[49, 50]⟩, .string ⟨#[45, 51]⟩, .string ⟨#[52, 46, 53, 48]⟩, .string ⟨#[49, 48, 48, 46, 48, 53]⟩, .string ⟨#[45, 48, 46, 53]⟩] 9)
        have hl4 : Strs (wr.alloc (.cells #[.string ⟨#[48]⟩, .string ⟨#[49, 50]⟩, .string ⟨#[45, 51]⟩, .string ⟨#[52, 46, 53, 48]⟩, .string ⟨#[49, 48, 48, 46, 48, 53]⟩, .string ⟨#[45, 48, 46, 53]⟩] 9)) (some ⟨wr.heap.size, 0, none⟩) 6 [⟨#[48]⟩, ⟨#[49, 50]⟩, ⟨#[45, 51]⟩, ⟨#[52, 46, 53, 48]⟩, ⟨#[49, 48, 48, 46, 48, 53]⟩, ⟨#[45, 48, 46, 53]⟩] := slit8 wr 9 [⟨#[48]⟩, ⟨#[49, 50]⟩, ⟨#[45, 51]⟩, ⟨#[52, 46, 53, 48]⟩, ⟨#[49, 48, 48, 46, 48, 53]⟩, ⟨#[45, 48, 46, 53]⟩] 6 rfl
        have hs4 := hs.below hb4
        have hd4 := Lib.hid (hd.out.below hb4 (by omega))
        have hrow4 := Lib.hid (hrow.out.alloc (.cells #[.string ⟨#[48]⟩, .string ⟨#[49, 50]⟩, .string ⟨#[45, 51]⟩, .string ⟨#[52, 46, 53, 48]⟩, .string ⟨#[49, 48, 48, 46, 48, 53]⟩, .string ⟨#[45, 48, 46, 53]⟩] 9))
        have hz4 := hb4.size
        have hne4 : ∀ p : Addr, (some ⟨wr.heap.size, 0, none⟩ : Option Addr) = some p → p.block ≠ w.heap.size := fun p hp => by cases hp; simp only; omega
        have hsl4 := Lib.hid (shortAll.out (show shortAll [⟨#[48]⟩, ⟨#[49, 50]⟩, ⟨#[45, 51]⟩, ⟨#[52, 46, 53, 48]⟩, ⟨#[49, 48, 48, 46, 48, 53]⟩, ⟨#[45, 48, 46, 53]⟩] = true by decide))
        have hp4 := Lib.hid (text_any _ _ _ 6 6 _ _ hs4 (by omega) hl4 (by omega) (by omega) hne4)
        clear hb4 hl4 hs4 hne4 hs hd hrow
        go_wp2_with fail
        refine hp4.out.mono ?_
        rintro e w5 ⟨a, am, rfl, hs5, hg5⟩
        have hd5 := Lib.hid (hd4.out.pick hg5 (by omega))
        have hrow5 := owns_past hrow4.out hg5 (by omega)
        have hz5 := hd5.out.size
        have hz55 := hg5.size
        have hsa := hsl4.out a am
        have hln : Hid ((L ++ [a] : List ByteArray).length = L.length + 1) := Lib.hid (by simp)
        have hsh2 := Lib.hid (hsh.out.snoc hsa)
        have hfl := Lib.hid (snoc8s L a)
        replace hs5 := Lib.hid hs5
        have hL41 : L.length ≤ 41 := by omega
        have hlk7 : Hid ((L ++ [a] : List ByteArray).length + (k - 1) = L.length + k) := Lib.hid (by rw [hln.out]; omega)
        clear hg5 hp4 hrow4 hd4 hsl4 am hsa
        have hroq5 := Lib.hid hrow5.lt
        have hbq5 := Lib.hid (below_a1 w5 (.cells #[.string a] 9))
        have hrl5 := Lib.hid hrow5
        clear hrow5
        generalize hpn : L.length = pn at *
        go_wp2_with (at_builtin; refine wpList_append_own _ rfl _ _ 27 rfl w1.heap.size 9 i0 _ 1 16 Try.underlying27 hi hz0' hz1' hz2' rfl (by decide) _ _ _ rfl (hrl5.out.alloc _) ⟨w5.heap.size, 0, none⟩ 1 1 [.string a] rfl rfl (news8 _ _ _) (one8s _) (by unfold maxLen; omega) (by omega) (by simp; omega) ?_)
        intro vq5 wq5 hownq5 hgrq5 hnilq5
        clear hnilq5
        have hs6 := (hs5.out.below hbq5.out).grownO hgrq5 (fun q hq => by have := (hroq5.out q hq).1; omega)
        have hd6 := (hd5.out.below hbq5.out (by omega)).youngO hgrq5 (by simp; omega) (fun q hq => by have := (hroq5.out q hq).1; omega)
        have hzq := hgrq5.size
        have hzq1 := hbq5.out.size
        have hrow6 : Hid (wq5.ownsRow w1.heap.size 9 1 vq5 (L ++ [a] : List ByteArray).length ((L ++ [a] : List ByteArray).flatMap strC)) := Lib.hid (by
          rw [hln.out, hfl.out]
          exact hownq5)
        have hs7 : Hid (SrcAt wq5 w.heap.size (8 + 2 * (L ++ [a] : List ByteArray).length)) := Lib.hid (hs6.mono (by rw [hln.out]; omega))
        have hl7 : Hid ((L ++ [a] : List ByteArray).length + (k - 1) ≤ 41 ∧ (40 + x3) = (((L ++ [a] : List ByteArray).length + (k - 1) : Nat) : Int) ∧ w1.heap.size ≤ wq5.heap.size) := Lib.hid (by rw [hlk7.out]; refine ⟨by omega, hkn.out, by omega⟩)
        have hd7 := Lib.hid hd6
        clear hs6 hgrq5 hownq5 hd6 hzq hzq1
        go_wp2
        go_roundw
        case rel => exact ⟨L ++ [a], k - 1, by rw [Int.natCast_sub (by omega)]; rfl, hl7.out.1, hl7.out.2.1, hsh2.out, hrow6.out, hs7.out, hd7.out, hl7.out.2.2⟩
        case measure => simp [intOf]; omega
      · obtain rfl : k = 0 := by omega
        have hg : decide ((0 : Int) < ((0 : Nat) : Int)) = false := rfl
        obtain ⟨A, c, rfl, hO⟩ := owns_s8 rfl hrow.out
        replace hO := Lib.hid hO
        have hkn0 : Hid ((40 + x3) = (L.length : Int)) := Lib.hid (by have := hkn.out; rw [Nat.add_zero] at this; exact this)
        clear hkn
        have hL41 : L.length ≤ 41 := by omega
        replace hs := hs.mono (show 8 + 2 * L.length ≤ 100 by omega)
        clear hrow hLk
        generalize hpn : L.length = n at *
        by_cases hpos : 0 < n
        · have hgt : decide ((0 : Int) < (40 + x3)) = true := decide_eq_true (by have := hkn0.out; omega)
          obtain ⟨g, rfl⟩ : ∃ g, A = some ⟨g, 0, none⟩ := by
            rcases hO.out with ⟨_, ⟨_, h0⟩ | ⟨g, m, f, h1, _⟩⟩
            · omega
            · exact ⟨g, h1⟩
          have hp8 := Lib.hid (one_any _ 100 4 wr hs (by omega) (by omega))
          clear hs
          go_wp2_with fail
          refine hp8.out.mono ?_
          rintro e w8 ⟨b2, rfl, hs8, hg8⟩
          have hO8 : OStrs w8 w1.heap.size (some ⟨g, 0, none⟩) n L := hO.out.block (fun p hp => hg8.block _ (hO.out.lt p hp) (fun e => by have := hO.out.own p hp; have e2 := Option.some.inj e; omega))
          have hd8 := hd.out.pick hg8 (by omega)
          have hz8 := hg8.size
          clear hp8 hg8 hO hd
          cases b2 with
          | false =>
            have hbb := Lib.hid (hd8.own (Nat.le_refl _))
            have hO9 := Lib.hid hO8
            clear hs8 hd8 hO8
            go_wp2
            go_ret
            exact ⟨_, n, c, L, rfl, by omega, hO9.out.srow, hsh.out, hbb.out⟩
          | true =>
            have hp9 := Lib.hid (l08number_any _ _ w8 hs8 (by omega))
            clear hs8
            have hn0 : (0 : Int) < (n : Int) := by omega
            go_wp2_with fail
            refine hp9.out.mono ?_
            rintro e w9 ⟨z, rfl, hzs, hs9, hd9⟩
            have hO9 : OStrs w9 w1.heap.size (some ⟨g, 0, none⟩) n L := hO8.block (fun p hp => hd9.block _ (hO8.lt p hp) (fun e => by have := hO8.own p hp; omega))
            have hz9 := hd9.size
            have hd99 := hd8.trans (hd9.down (by omega))
            obtain ⟨y, p0, p1, p2, p3⟩ := hO9.parts8 hpos
            have hput := Lib.hid (hO9.put8 z hpos)
            have hgg : w9.grownBy (w9.setCell ⟨g, 0, none⟩ (.string z)) (some g) := grown_set
            have hbb := Lib.hid ((hd99.young hgg (by omega) (by omega)).own (Nat.le_refl _))
            have hsh2 := Lib.hid (hsh.out.set (i := 0) hzs)
            clear hp9 hO9 hO8 hd9 hd99 hd8 hs9 hgg hzs
            go_wp2
            go_ret
            exact ⟨_, n, c, L.set 0 z, rfl, by omega, hput.out.srow, hsh2.out, hbb.out⟩
        · have hgt : decide ((0 : Int) < (40 + x3)) = false := decide_eq_false (by have := hkn0.out; omega)
          have hbb := Lib.hid (hd.out.own (Nat.le_refl _))
          clear hs hd
          go_wp2
          go_ret
          exact ⟨A, n, c, L, rfl, by omega, hO.out.srow, hsh.out, hbb.out⟩
end Go.Proofs.Ytmgoidngecimbaa
