/- What LineOf and SameStruck are drawn. -/
import Derived.Test.YtphhpmnigchooaaDraw4e
namespace Go.Proofs.Ytphhpmnigchooaa
open Go.RowKit
set_option linter.unusedVariables false
set_option linter.unusedSimpArgs false

theorem owns_strucks {w : World} {base n : Nat} {A : Option Addr} {c : Nat} {xs : List StruckD} (h : w.ownsRow base 41 2 (.slice A n c) n (xs.flatMap StruckD.cells)) (hl : xs.length = n) : Strucks w A n xs := by
  subst hl
  obtain ⟨A', c', e, hO⟩ := ORow.of_owns (cells := StruckD.cells) (fun _ => rfl) h
  cases e
  exact hO.srow
def DLOut (Z : Nat) (w : World) (e : Ending) (w' : World) : Prop := ∃ b : CarriageD, ∃ A n c, ∃ xs : List StruckD, e = .returned (.tuple #[.agg #[.int .i64 b.left, .int .i64 b.right, .int .i64 b.bell], .slice A n c]) ∧ b.good ∧ n ≤ 202 ∧ Strucks w' A n xs ∧ (∀ x ∈ xs, strD x) ∧ Below Z w w'
set_option maxRecDepth 100000 in
set_option maxHeartbeats 4000000 in
theorem drawLine_any (A : Option Addr) (n c : Nat) (xs : List Int) (w : World) (hn : n ≤ maxLen) (h : Bytes w A n xs) (hg : ∀ x ∈ xs, byteGood x) :
    Calls Try.prog 5 #[.slice A n c] w (DLOut w.heap.size w) := by
  have hZ0 := CRow.new w 0 0 0
  have hb0 := below_a1 w (.cells #[.int .i64 0, .int .i64 0, .int .i64 0] 25)
  have hal := Lib.hid (drawStruck_any A n c xs _ hn (h.below hb0) hg)
  go_enter Try.func5, Try.ntmps5
  go_wp2_with fail
  have hz0 := hZ0.lt
  generalize w.alloc (.cells #[.int .i64 0, .int .i64 0, .int .i64 0] 25) = w0 at *
  generalize hZ : w.heap.size = Z at *
  refine hal.out.mono ?_
  rintro e w1 ⟨b, A', n', c', ys, rfl, hbg, hn', hc', hrow, hlen, hyg, hb1⟩
  have hZ1 := hZ0.below hb1
  have hd4 : Below Z w w1 := hb0.trans (hb1.mono (by omega))
  obtain ⟨e0, e1, e2⟩ := hZ1.cells
  have f0 := hZ1.frozen 0
  have f1 := hZ1.frozen 1
  have f2 := hZ1.frozen 2
  have hgf := grown_put3 w1 Z (.int .i64 b.left) (.int .i64 b.right) (.int .i64 b.bell)
  have hZf := hZ1.put3 b.left b.right b.bell
  have hyf := owns_strucks (owns_past hrow hgf (by omega)) hlen
  have hdf : Below Z w (((w1.setCell ⟨Z, 0, none⟩ (.int .i64 b.left)).setCell ⟨Z, 1, none⟩ (.int .i64 b.right)).setCell ⟨Z, 2, none⟩ (.int .i64 b.bell)) := ⟨hgf.os.trans hd4.os, hgf.tape.trans hd4.tape, hgf.output.trans hd4.output, Nat.le_trans hd4.size hgf.size, fun k hk => (hgf.block k (by have := hZ1.lt; omega) (fun e => by cases e; omega)).trans (hd4.block k hk)⟩
  go_wp2
  (try simp only [Exit.inBlock, Exit.then])
  obtain ⟨z0, z1, z2⟩ := hZf.cells
  generalize ((w1.setCell ⟨Z, 0, none⟩ (.int .i64 b.left)).setCell ⟨Z, 1, none⟩ (.int .i64 b.right)).setCell ⟨Z, 2, none⟩ (.int .i64 b.bell) = wf at *
  refine bodyPost_ret (v := .tuple #[.agg #[.int .i64 b.left, .int .i64 b.right, .int .i64 b.bell], .slice A' n' c']) (by simp [results, Try.results5, go_sem, z0, z1, z2]) rfl ?_
  unfold DLOut
  exact ⟨b, A', n', c', ys, rfl, hbg, hn', hyf, hyg, hdf⟩

def str3 (x : StruckD) : Prop := (Lit.int .i64 x.place).wf = true ∧ x.letter.size ≤ 4
theorem str3.good {x : StruckD} (h : str3 x) : x.good := ⟨h.1, by have := h.2; unfold maxLen; omega⟩
theorem strD.str3 {x : StruckD} (h : strD x) : str3 x := ⟨h.1, Nat.le_trans h.2 (by decide)⟩
/-- Two lists that have been drawn. -/
def SSOut (Z : Nat) (w : World) (e : Ending) (w' : World) : Prop := ∃ A n c, ∃ xs : List StruckD, ∃ B m d, ∃ ys : List StruckD, e = .returned (.tuple #[.slice A n c, .slice B m d]) ∧ n ≤ 1000 ∧ m ≤ 1000 ∧ Strucks w' A n xs ∧ Strucks w' B m ys ∧ (∀ x ∈ xs, str3 x) ∧ (∀ x ∈ ys, str3 x) ∧ Below Z w w'
theorem strs_len (l : List StruckD) : (l.flatMap StruckD.cells).length = l.length * 2 := by
  induction l with
  | nil => rfl
  | cons a l ih => simp [StruckD.cells, ih]; omega
theorem strs_one (l : List StruckD) : ∀ u ∈ l.flatMap StruckD.cells, u.oneCell' = true := fun u hu => by
  rw [List.mem_flatMap] at hu
  obtain ⟨x, _, hx⟩ := hu
  simp only [StruckD.cells, List.mem_cons, List.not_mem_nil, or_false] at hx
  rcases hx with rfl | rfl <;> rfl

theorem add_at (g j : Nat) : (⟨g, 0, none⟩ : Addr).add j = ⟨g, j, none⟩ := by
  unfold Addr.add
  split
  · rename_i h
    rw [h]
  · simp
theorem strs_set0 : ∀ {l : List StruckD} {y : StruckD} {t : ByteArray}, l[0]? = some y → (l.set 0 ⟨y.place, t⟩).flatMap StruckD.cells = (l.flatMap StruckD.cells).set 1 (.string t)
  | [], _, _, h => by cases h
  | a :: l, _, _, h => by cases h; rfl
theorem set_str3 {l : List StruckD} (h : ∀ x ∈ l, str3 x) {p : Int} {t : ByteArray} (hp : (Lit.int .i64 p).wf = true) (ht : t.size ≤ 4) : ∀ x ∈ l.set 0 ⟨p, t⟩, str3 x := fun x hx => by
  rcases List.mem_or_eq_of_mem_set hx with hx | rfl
  · exact h x hx
  · exact ⟨hp, ht⟩
/-- A source at r, a list that is only read; what is younger than B is the call's own. -/
structure SD (w : World) (Z r B : Nat) (A : Option Addr) (n : Nat) (ys : List StruckD) (t : Nat) (W : World) : Prop where
  src : SrcAt W r t
  bel : Below Z w W
  row : Strucks W A n ys
  low : ∀ p, A = some p → p.block < r
  lt1 : Z ≤ r
  lt2 : r < B
  lt3 : B ≤ W.heap.size
section
variable {w : World} {Z r B : Nat} {A : Option Addr} {n : Nat} {ys : List StruckD} {t t' : Nat} {W W' : World}
theorem SD.pick (h : SD w Z r B A n ys t W) (hs : SrcAt W' r t') (hg : W.grownBy W' (some r)) : SD w Z r B A n ys t' W' := by
  have h1 := h.lt1
  have h2 := h.lt2
  have h3 := h.lt3
  exact ⟨hs, ⟨hg.os.trans h.bel.os, hg.tape.trans h.bel.tape, hg.output.trans h.bel.output, Nat.le_trans h.bel.size hg.size, fun k hk => (hg.block k (by omega) (fun e => by cases e; omega)).trans (h.bel.block k hk)⟩, h.row.youngR hg (fun p hp e => by have := h.low p hp; cases e; omega), h.low, h1, h2, Nat.le_trans h3 hg.size⟩
theorem SD.youngO {row : Option Nat} (h : SD w Z r B A n ys t W) (hg : W.grownBy W' row) (hq : ∀ q, row = some q → B ≤ q) : SD w Z r B A n ys t W' := by
  have h1 := h.lt1
  have h2 := h.lt2
  have h3 := h.lt3
  exact ⟨h.src.grownO hg (fun q e => by have := hq q e; omega), ⟨hg.os.trans h.bel.os, hg.tape.trans h.bel.tape, hg.output.trans h.bel.output, Nat.le_trans h.bel.size hg.size, fun k hk => (hg.block k (by omega) (fun e => by have := hq _ e.symm; omega)).trans (h.bel.block k hk)⟩, h.row.youngR hg (fun p hp e => by have := h.low p hp; have := hq _ e; omega), h.low, h1, h2, Nat.le_trans h3 hg.size⟩
theorem SD.below (h : SD w Z r B A n ys t W) (hb : Below W.heap.size W W') : SD w Z r B A n ys t W' := h.youngO (grown_below hb none) (fun q e => by cases e)
end
theorem strs_cell : ∀ {l : List StruckD} {i : Nat} {x : StruckD}, l[i]? = some x → (l.flatMap StruckD.cells)[i * 2]? = some (.int .i64 x.place) ∧ (l.flatMap StruckD.cells)[i * 2 + 1]? = some (.string x.letter)
  | [], i, x, h => by cases h
  | a :: l, 0, x, h => by cases h; exact ⟨rfl, rfl⟩
  | a :: l, i + 1, x, h => by
    have h' : l[i]? = some x := h
    have ih := strs_cell h'
    rw [List.flatMap_cons, show (i + 1) * 2 = i * 2 + 1 + 1 by omega]
    exact ih
theorem add_str3 {l : List StruckD} (h : ∀ x ∈ l, str3 x) {y : StruckD} (hy : str3 y) : ∀ x ∈ l ++ [y], str3 x := fun x hx => by
  rcases List.mem_append.1 hx with hx | hx
  · exact h x hx
  · rw [List.mem_singleton] at hx; exact hx ▸ hy

set_option maxRecDepth 100000 in
set_option maxHeartbeats 8000000 in
theorem drawSame_any (A : Option Addr) (n c : Nat) (xs : List Int) (w : World) (hn : n ≤ maxLen) (h : Bytes w A n xs) (hg : ∀ x ∈ xs, byteGood x) :
    Calls Try.prog 12 #[.slice A n c] w (SSOut w.heap.size w) := by
  obtain ⟨j0, hj, hy0', hy1', hy2'⟩ := info_parts Try.infoStruck4
  have hal := Lib.hid (drawStruck_any A n c xs w hn h hg)
  have hfr := Lib.hid (fun W (hW : Below w.heap.size w W) => from_any A n c xs W hn (h.below hW) hg)
  go_enter Try.func12, Try.ntmps12
  go_wp2_with fail
  generalize hZ : w.heap.size = Z at *
  refine hal.out.mono ?_
  rintro e w1 ⟨b, A', n', c', ys, rfl, hbg, hn', hc', hrow, hlen, hyg, hb1⟩
  have hbC := below_a1 w1 (.cells #[.int .i64 b.left, .int .i64 b.right, .int .i64 b.bell] 25)
  have hrow2 := owns_still hrow hbC
  have hb2 : Below Z w _ := hb1.trans (hbC.mono (by have := hb1.size; omega))
  have hlow : ∀ p, A' = some p → p.block < w1.heap.size := fun p hp => by
    subst hp
    exact (World.ownsRow.lt hrow _ rfl).2
  have hw12 := hbC.size
  clear hrow hb1
  go_wp2_with fail
  generalize w1.alloc (.cells #[.int .i64 b.left, .int .i64 b.right, .int .i64 b.bell] 25) = w2 at *
  refine (hfr.out w2 (by first | exact hb2 | exact hZ ▸ hb2)).mono ?_
  rintro e w3 ⟨rfl, hs3, hb3⟩
  have hrow3 := owns_still hrow2 hb3
  have hd3 : Below Z w w3 := hb2.trans (hb3.mono (by have := hb2.size; omega))
  have hr3 := hs3.lt
  have hwr := hb2.size
  have hlowr : ∀ p, A' = some p → p.block < w2.heap.size := fun p hp => Nat.lt_of_lt_of_le (hlow p hp) hw12
  generalize w2.heap.size = r at *
  have hem := empty_row w3 w3.heap.size 41 (Nat.le_refl _)
  have hbe := below_a1 w3 (.cells #[] 41)
  have hrowE := owns_still hrow3 hbe
  have hzE : (w3.alloc (.cells #[] 41)).heap.size = w3.heap.size + 1 := by simp
  have hDE : SD w Z r w3.heap.size A' n' ys 0 (w3.alloc (.cells #[] 41)) := ⟨hs3.below hbe, hd3.trans (hbe.mono (by have := hd3.size; omega)), owns_strucks hrowE hlen, hlowr, by omega, hr3, by omega⟩
  clear hal hfr hrow2 hrow3 hs3 hb2 hlow hbC hb3
  subst hlen
  replace hyg := Lib.hid hyg
  cases hA : A' with
  | none =>
    subst hA
    have hn0 : ys.length = 0 := by
      obtain ⟨_, ⟨h1, h2⟩ | ⟨g, cap, cur, h1, _⟩⟩ := hrowE
      · exact h2
      · cases h1
    have hys0 : ys = [] := List.length_eq_zero_iff.1 hn0
    subst hys0
    have hr6 : (w3.alloc (.cells #[] 41)).ownsRow w3.heap.size 41 2 (.slice (some ⟨w3.heap.size, 0, none⟩) 0 0) 0 (([] : List StruckD).flatMap StruckD.cells) := hem
    have hD6 := hDE
    have hz3 : Hid (∀ x ∈ ([] : List StruckD), str3 x) := Lib.hid (fun x h => by cases h)
    have hzl : ([] : List StruckD).length = 0 := rfl
    clear hem hbe hDE hrowE hd3 hzE
    go_wp2_with fail
    generalize w3.alloc (.cells #[] 41) = w6 at *
    generalize w3.heap.size = B at *
    have ho6 := Lib.hid (one_any r 0 5 w6 (SD.src hD6) (by omega) (by omega))
    refine ho6.out.mono ?_
    rintro e wk ⟨b6, rfl, hsk, hgk⟩
    have hlt2 := SD.lt2 hD6
    have hDk := SD.pick hD6 hsk hgk
    have hrk := owns_past hr6 hgk (by omega)
    clear ho6 hsk hgk
    cases b6 with
    | true =>
      have hB3 := hDk.lt3
      have h63 : 0 + 1 ≤ maxLen := by unfold maxLen; omega
      have hby : (0 + 1) * 24 ≤ 140737488355328 := by omega
      go_wp2_with (at_builtin; refine wpList_append_own _ rfl _ _ 26 rfl B 41 j0 _ 2 24 Try.underlying26 hj hy0' hy1' hy2' rfl (by decide) _ _ _ rfl (World.ownsRow.alloc hrk _) ⟨wk.heap.size, 0, none⟩ 1 1 [.int .i64 0, .string ⟨#[]⟩] rfl rfl ?a1 ?b1 h63 hby ?e1 ?_)
      case a1 =>
        intro i u hi
        match i, hi with
        | 0, hi => cases hi; exact cell_new (by simp [Addr.add]) rfl
        | 1, hi => cases hi; exact cell_new (by simp [Addr.add]) rfl
        | i + 2, hi => simp at hi
      case b1 =>
        intro u hu
        simp only [List.mem_cons, List.not_mem_nil, or_false] at hu
        rcases hu with rfl | rfl <;> rfl
      case e1 => simp; omega
      intro v' w9 hown9 hgr9 hnil
      have hgA := grown_trans (grown_below (below_a1 wk _) _) hgr9
      have hD9 := SD.youngO hDk hgA (fun q hq => act_base hrk q hq)
      have hrow9 : w9.ownsRow B 41 2 v' (([] : List StruckD) ++ [(⟨0, ⟨#[]⟩⟩ : StruckD)]).length ((([] : List StruckD) ++ [(⟨0, ⟨#[]⟩⟩ : StruckD)]).flatMap StruckD.cells) := by
        rw [st_snoc4, List.length_append, hzl]
        exact hown9
      have hgd9 := Lib.hid (add_str3 hz3.out (y := ⟨0, ⟨#[]⟩⟩) ⟨rfl, Nat.zero_le _⟩)
      clear hown9 hgr9 hnil hgA hrk hDk
      obtain ⟨A9, c9, hv9⟩ := owns_slice hrow9
      cases hv9
      have hyB := owns_strucks hrow9 rfl
      have hsd := hD9
      clear hrow9
      go_wp2
      go_ret2
      unfold SSOut
      exact ⟨_, _, c', [], A9, _, c9, _, rfl, by omega, by (try simp only [List.length_append, List.length_cons, List.length_nil]); omega, hsd.row, hyB, fun x hx => (hyg.out x hx).str3, hgd9.out, hsd.bel⟩
    | false =>
      have hyB := owns_strucks hrk hzl
      have hsd := hDk
      clear hrk
      go_wp2
      go_ret2
      unfold SSOut
      exact ⟨_, _, c', [], some ⟨_, 0, none⟩, _, _, [], rfl, by omega, by (try simp only [List.length_append, List.length_cons, List.length_nil]); omega, hsd.row, hyB, fun x hx => (hyg.out x hx).str3, hz3.out, hsd.bel⟩
  | some ad =>
    subst hA
    have hnews : ∀ j u, (ys.flatMap StruckD.cells)[j]? = some u → (w3.alloc (.cells #[] 41)).cell? (ad.add j) = some u := fun j u hj => by
      rcases Nat.eq_zero_or_pos ys.length with h0 | h0
      · have : ys = [] := List.length_eq_zero_iff.1 h0
        subst this
        cases hj
      · obtain ⟨g, cap, hv, _, _, _, hcell, _⟩ := owns_at hrowE h0
        cases hv
        rw [add_at g j]
        exact hcell j u hj
    go_wp2_with (at_builtin; refine wpList_append_own _ rfl _ _ 26 rfl w3.heap.size 41 j0 _ 2 24 Try.underlying26 hj hy0' hy1' hy2' rfl (by decide) _ _ _ rfl hem ad ys.length c' (ys.flatMap StruckD.cells) rfl (strs_len ys) hnews (strs_one ys) (by unfold maxLen; omega) (by omega) (by omega) ?_)
    intro v' w4 hown4 hgr4 hnil
    have hD4 := SD.youngO hDE hgr4 (fun q hq => by cases hq; exact Nat.le_refl _)
    have hrow4 : w4.ownsRow w3.heap.size 41 2 v' ys.length (ys.flatMap StruckD.cells) := by
      first
        | exact hown4
        | simpa using hown4
    have hys3 : Hid (∀ x ∈ ys, str3 x) := Lib.hid (fun x hx => (hyg.out x hx).str3)
    clear hown4 hgr4 hnil hem hbe hDE hrowE hnews hd3 hzE
    generalize w3.heap.size = B at *
    by_cases hm0 : 0 < ys.length
    · have gm : decide ((0 : Int) < (ys.length : Int)) = true := decide_eq_true (by omega)
      obtain ⟨A4, c4, hv4⟩ := owns_slice hrow4
      subst hv4
      have ho4 := Lib.hid (one_any r 0 2 w4 hD4.src (by omega) (by omega))
      go_wp2_with fail
      refine ho4.out.mono ?_
      rintro e w5 ⟨b4, rfl, hs5, hg5⟩
      have hlt2 := SD.lt2 hD4
      have hD5 := SD.pick hD4 hs5 hg5
      have hrow5 := owns_past hrow4 hg5 (by omega)
      clear ho4 hs5 hg5 hrow4 hD4
      cases b4 with
      | true =>
        have hDd : SD w Z r B (some ad) ys.length ys 2 w5.drew := SD.below hD5 (Below.refl _ _).drew
        have hrd := owns_still hrow5 (Below.refl _ _).drew
        obtain ⟨g, cap, hv, hgb, hgl, hcap, hcell, hfro, hset⟩ := owns_at hrd hm0
        cases hv
        obtain ⟨y0, hy0⟩ : ∃ y0, ys[0]? = some y0 := ⟨ys[0], List.getElem?_eq_getElem hm0⟩
        have hyl := Lib.hid (strs_cell hy0).2
        have hl0 := hcell 1 _ hyl.out
        have hy0w := hyg.out y0 (List.mem_of_getElem? hy0)
        have hy0s := hy0w.2
        replace hy0 := Lib.hid hy0
        have hi0 : (0 : Int) < (ys.length : Int) := by omega
        clear hcell hfro hset hD5 hrow5 hgl
        go_wp2_with fail
        refine wp_region_held_drew (S := fun _ => True) (by kernel_rfl) trivial (fun _ => ?_)
        generalize w5.drew = wd at *
        refine wpAnyH_take (i := 0) (v := ?vr1_0) rfl (by kernel_rfl) (by kernel_rfl) (by kernel_rfl) (fun _ _ _ h => h) (Or.inl ⟨rfl, ?yr1_0⟩) trivial ?_
        case yr1_0 => (intro w hSw; go_simp; first | done | with_reducible rfl)
        try simp only [List.getElem_toArray, List.getElem_cons_succ, List.getElem_cons_zero, Act.put, List.setIfInBounds_toArray, List.set_cons_zero, List.set_cons_succ]
        refine wpAnyH_take (i := 1) (v := ?vr2_1) rfl (by kernel_rfl) (by kernel_rfl) (by kernel_rfl) (fun _ _ _ h => h) (Or.inl ⟨rfl, ?yr2_1⟩) trivial ?_
        case yr2_1 => (intro w hSw; go_simp; first | done | with_reducible rfl)
        try simp only [List.getElem_toArray, List.getElem_cons_succ, List.getElem_cons_zero, Act.put, List.setIfInBounds_toArray, List.set_cons_zero, List.set_cons_succ]
        refine wpAnyH_take (i := 2) (v := ?vr3_2) rfl (by kernel_rfl) (by kernel_rfl) (by kernel_rfl) (fun _ _ _ h => h) (Or.inl ⟨rfl, ?yr3_2⟩) trivial ?_
        case yr3_2 => (intro w hSw; go_simp; first | done | with_reducible rfl)
        try simp only [List.getElem_toArray, List.getElem_cons_succ, List.getElem_cons_zero, Act.put, List.setIfInBounds_toArray, List.set_cons_zero, List.set_cons_succ]
        refine wpAnyH_take (i := 4) (v := ?vr4_4) rfl (by kernel_rfl) (by kernel_rfl) (by kernel_rfl) (fun _ _ _ h => h) (Or.inl ⟨rfl, ?yr4_4⟩) trivial ?_
        case yr4_4 => (intro w hSw; go_simp; first | done | with_reducible rfl)
        try simp only [List.getElem_toArray, List.getElem_cons_succ, List.getElem_cons_zero, Act.put, List.setIfInBounds_toArray, List.set_cons_zero, List.set_cons_succ]
        refine wpAnyH_ready (rs := [3, 5]) (by kernel_rfl) (by simp) ?_
        refine AllReadyH.cons rfl (fun K hK => ?_) (AllReadyH.cons rfl (fun K hK => ?_) AllReadyH.nil)
        · go_simp
          refine hK.out _ _ trivial (fun _ => ?_)
          clear hK K
          try simp only [List.getElem_toArray, List.getElem_cons_succ, List.getElem_cons_zero, Act.put, List.setIfInBounds_toArray, List.set_cons_zero, List.set_cons_succ]
          refine wpAnyH_ready (rs := [5]) (by kernel_rfl) (by simp) ?_
          refine AllReadyH.cons rfl (fun K hK => ?_) AllReadyH.nil
          go_simp
          refine hK.out _ _ trivial (fun _ => ?_)
          clear hK K
          try simp only [List.getElem_toArray, List.getElem_cons_succ, List.getElem_cons_zero, Act.put, List.setIfInBounds_toArray, List.set_cons_zero, List.set_cons_succ]
          have hbS : Below wd.heap.size wd (wd.alloc (.cells #[.string ⟨#[]⟩, .string ⟨#[120]⟩] 9)) := below_a1 wd _
          have hSl : Strs (wd.alloc (.cells #[.string ⟨#[]⟩, .string ⟨#[120]⟩] 9)) (some ⟨wd.heap.size, 0, none⟩) 2 [⟨#[]⟩, ⟨#[120]⟩] := strs_lit wd [⟨#[]⟩, ⟨#[120]⟩] 9 2 rfl
          have hDa := SD.below hDd hbS
          have hra := owns_still hrd hbS
          obtain ⟨g', cap', hv', hgb', hgl', hcap', hcella, _⟩ := owns_at hra hm0
          cases hv'
          have hla := hcella 1 _ hyl.out
          have hqB := SD.lt3 hDd
          generalize wd.alloc (.cells #[.string ⟨#[]⟩, .string ⟨#[120]⟩] 9) = wa at *
          generalize wd.heap.size = q at *
          clear hcella hbS hgb' hgl' hcap'
          refine wpAnyH_ready (rs := [6]) (by kernel_rfl) (by simp) ?_
          refine AllReadyH.cons rfl (fun K hK => ?_) AllReadyH.nil
          go_simp
          refine (text_any r 2 (some ⟨q, 0, none⟩) 2 2 [⟨#[]⟩, ⟨#[120]⟩] wa (SD.src hDa) (by omega) hSl (by omega) (by omega) (fun p hp => by cases hp; simp only; omega)).mono ?_
          rintro e wc ⟨y, hy, rfl, hsc, hgc⟩
          go_wp2_with fail
          refine hK.out _ _ trivial (fun _ => ?_)
          clear hK K
          try simp only [List.getElem_toArray, List.getElem_cons_succ, List.getElem_cons_zero, Act.put, List.setIfInBounds_toArray, List.set_cons_zero, List.set_cons_succ]
          have hDc := SD.pick hDa hsc hgc
          have hrc := owns_past hra hgc (by omega)
          have hyb : y.size ≤ 1 := by
            simp only [List.mem_cons, List.not_mem_nil, or_false] at hy
            rcases hy with rfl | rfl <;> decide
          obtain ⟨g', cap', hv', hgb', hgl', hcap', hcellc, hfroc, hsetc⟩ := owns_at hrc hm0
          cases hv'
          have hlc := hcellc 1 _ hyl.out
          have hfc := hfroc 1
          obtain ⟨hgS, hrS⟩ := hsetc 1 (.string (y0.letter ++ y))
          clear hcellc hfroc hsetc hgb' hgl' hcap' hy hSl hsc hgc
          have hcat : ¬ 9223372036854775807 < y0.letter.size + y.size := by omega
          refine wpAnyH_take (i := 7) (v := ?vr5_7) rfl (by kernel_rfl) (by kernel_rfl) (by kernel_rfl) (fun _ _ _ h => h) (Or.inl ⟨rfl, ?yr5_7⟩) trivial ?_
          case yr5_7 => (intro w hSw; go_simp; (try rw [if_neg hcat]); first | done | with_reducible rfl)
          try simp only [List.getElem_toArray, List.getElem_cons_succ, List.getElem_cons_zero, Act.put, List.setIfInBounds_toArray, List.set_cons_zero, List.set_cons_succ]
          clear hcat
          refine wpAnyH_take (i := 8) (v := ?vr6_8) rfl (by kernel_rfl) (by kernel_rfl) (by kernel_rfl) (fun _ _ _ h => h) (Or.inl ⟨rfl, ?yr6_8⟩) trivial ?_
          case yr6_8 => (intro w hSw; go_simp; first | done | with_reducible rfl)
          try simp only [List.getElem_toArray, List.getElem_cons_succ, List.getElem_cons_zero, Act.put, List.setIfInBounds_toArray, List.set_cons_zero, List.set_cons_succ]
          refine wpAnyH_take (i := 9) (v := ?vr7_9) rfl (by kernel_rfl) (by kernel_rfl) (by kernel_rfl) (fun _ _ _ h => h) (Or.inl ⟨rfl, ?yr7_9⟩) trivial ?_
          case yr7_9 => (intro w hSw; go_simp; first | done | with_reducible rfl)
          try simp only [List.getElem_toArray, List.getElem_cons_succ, List.getElem_cons_zero, Act.put, List.setIfInBounds_toArray, List.set_cons_zero, List.set_cons_succ]
          refine wpAnyH_ready (rs := [10]) (by kernel_rfl) (by simp) ?_
          refine AllReadyH.cons rfl (fun K hK => ?_) AllReadyH.nil
          go_simp
          refine hK.out _ _ trivial (fun _ => ?_)
          clear hK K
          try simp only [List.getElem_toArray, List.getElem_cons_succ, List.getElem_cons_zero, Act.put, List.setIfInBounds_toArray, List.set_cons_zero, List.set_cons_succ]
          refine wpAnyH_done (by kernel_rfl) ?_ _
          have hD6 := SD.youngO hDc hgS (fun q hq => by cases hq; exact hgb)
          have hr6 : (wc.setCell ⟨g, 1, none⟩ (.string (y0.letter ++ y))).ownsRow B 41 2 (.slice (some ⟨g, 0, none⟩) ys.length c4) ys.length ((ys.set 0 ⟨y0.place, y0.letter ++ y⟩).flatMap StruckD.cells) := by
            rw [strs_set0 hy0.out]
            exact hrS (by rw [strs_len]; omega)
          have hz3 : Hid (∀ x ∈ ys.set 0 ⟨y0.place, y0.letter ++ y⟩, str3 x) := Lib.hid (set_str3 hys3.out hy0w.1 (by rw [ByteArray.size_append]; omega))
          have hzl : (ys.set 0 ⟨y0.place, y0.letter ++ y⟩).length = ys.length := List.length_set
          generalize wc.setCell ⟨g, 1, none⟩ (.string (y0.letter ++ y)) = w6 at *
          generalize ys.set 0 ⟨y0.place, y0.letter ++ y⟩ = zs at *
          clear hgS hrS hDc hrc hDa hra hDd hrd hlc hla hl0 hfc hyb hy0w
          have ho6 := Lib.hid (one_any r 4 5 w6 (SD.src hD6) (by omega) (by omega))
          go_wp2_with fail
          refine ho6.out.mono ?_
          rintro e wk ⟨b6, rfl, hsk, hgk⟩
          have hlt2 := SD.lt2 hD6
          have hDk := SD.pick hD6 hsk hgk
          have hrk := owns_past hr6 hgk (by omega)
          clear ho6 hsk hgk
          cases b6 with
          | true =>
            have hB3 := hDk.lt3
            have h63 : (ys).length + 1 ≤ maxLen := by unfold maxLen; omega
            have hby : ((ys).length + 1) * 24 ≤ 140737488355328 := by omega
            go_wp2_with (at_builtin; refine wpList_append_own _ rfl _ _ 26 rfl B 41 j0 _ 2 24 Try.underlying26 hj hy0' hy1' hy2' rfl (by decide) _ _ _ rfl (World.ownsRow.alloc hrk _) ⟨wk.heap.size, 0, none⟩ 1 1 [.int .i64 0, .string ⟨#[]⟩] rfl rfl ?a1 ?b1 h63 hby ?e1 ?_)
            case a1 =>
              intro i u hi
              match i, hi with
              | 0, hi => cases hi; exact cell_new (by simp [Addr.add]) rfl
              | 1, hi => cases hi; exact cell_new (by simp [Addr.add]) rfl
              | i + 2, hi => simp at hi
            case b1 =>
              intro u hu
              simp only [List.mem_cons, List.not_mem_nil, or_false] at hu
              rcases hu with rfl | rfl <;> rfl
            case e1 => simp; omega
            intro v' w9 hown9 hgr9 hnil
            have hgA := grown_trans (grown_below (below_a1 wk _) _) hgr9
            have hD9 := SD.youngO hDk hgA (fun q hq => act_base hrk q hq)
            have hrow9 : w9.ownsRow B 41 2 v' (zs ++ [(⟨0, ⟨#[]⟩⟩ : StruckD)]).length ((zs ++ [(⟨0, ⟨#[]⟩⟩ : StruckD)]).flatMap StruckD.cells) := by
              rw [st_snoc4, List.length_append, hzl]
              exact hown9
            have hgd9 := Lib.hid (add_str3 hz3.out (y := ⟨0, ⟨#[]⟩⟩) ⟨rfl, Nat.zero_le _⟩)
            clear hown9 hgr9 hnil hgA hrk hDk
            obtain ⟨A9, c9, hv9⟩ := owns_slice hrow9
            cases hv9
            have hyB := owns_strucks hrow9 rfl
            have hsd := hD9
            clear hrow9
            go_wp2
            go_ret2
            unfold SSOut
            exact ⟨_, _, c', ys, A9, _, c9, _, rfl, by omega, by (try simp only [List.length_append, List.length_cons, List.length_nil]); omega, hsd.row, hyB, fun x hx => (hyg.out x hx).str3, hgd9.out, hsd.bel⟩
          | false =>
            have hyB := owns_strucks hrk hzl
            have hsd := hDk
            clear hrk
            go_wp2
            go_ret2
            unfold SSOut
            exact ⟨_, _, c', ys, some ⟨g, 0, none⟩, _, c4, zs, rfl, by omega, by (try simp only [List.length_append, List.length_cons, List.length_nil]); omega, hsd.row, hyB, fun x hx => (hyg.out x hx).str3, hz3.out, hsd.bel⟩
        · go_simp
          refine hK.out _ _ trivial (fun _ => ?_)
          clear hK K
          try simp only [List.getElem_toArray, List.getElem_cons_succ, List.getElem_cons_zero, Act.put, List.setIfInBounds_toArray, List.set_cons_zero, List.set_cons_succ]
          have hbS : Below wd.heap.size wd (wd.alloc (.cells #[.string ⟨#[]⟩, .string ⟨#[120]⟩] 9)) := below_a1 wd _
          have hSl : Strs (wd.alloc (.cells #[.string ⟨#[]⟩, .string ⟨#[120]⟩] 9)) (some ⟨wd.heap.size, 0, none⟩) 2 [⟨#[]⟩, ⟨#[120]⟩] := strs_lit wd [⟨#[]⟩, ⟨#[120]⟩] 9 2 rfl
          have hDa := SD.below hDd hbS
          have hra := owns_still hrd hbS
          obtain ⟨g', cap', hv', hgb', hgl', hcap', hcella, _⟩ := owns_at hra hm0
          cases hv'
          have hla := hcella 1 _ hyl.out
          have hqB := SD.lt3 hDd
          generalize wd.alloc (.cells #[.string ⟨#[]⟩, .string ⟨#[120]⟩] 9) = wa at *
          generalize wd.heap.size = q at *
          clear hcella hbS hgb' hgl' hcap'
          refine wpAnyH_ready (rs := [3, 6]) (by kernel_rfl) (by simp) ?_
          refine AllReadyH.cons rfl (fun K hK => ?_) (AllReadyH.cons rfl (fun K hK => ?_) AllReadyH.nil)
          · go_simp
            refine hK.out _ _ trivial (fun _ => ?_)
            clear hK K
            try simp only [List.getElem_toArray, List.getElem_cons_succ, List.getElem_cons_zero, Act.put, List.setIfInBounds_toArray, List.set_cons_zero, List.set_cons_succ]
            refine wpAnyH_ready (rs := [6]) (by kernel_rfl) (by simp) ?_
            refine AllReadyH.cons rfl (fun K hK => ?_) AllReadyH.nil
            go_simp
            refine (text_any r 2 (some ⟨q, 0, none⟩) 2 2 [⟨#[]⟩, ⟨#[120]⟩] wa (SD.src hDa) (by omega) hSl (by omega) (by omega) (fun p hp => by cases hp; simp only; omega)).mono ?_
            rintro e wc ⟨y, hy, rfl, hsc, hgc⟩
            go_wp2_with fail
            refine hK.out _ _ trivial (fun _ => ?_)
            clear hK K
            try simp only [List.getElem_toArray, List.getElem_cons_succ, List.getElem_cons_zero, Act.put, List.setIfInBounds_toArray, List.set_cons_zero, List.set_cons_succ]
            have hDc := SD.pick hDa hsc hgc
            have hrc := owns_past hra hgc (by omega)
            have hyb : y.size ≤ 1 := by
              simp only [List.mem_cons, List.not_mem_nil, or_false] at hy
              rcases hy with rfl | rfl <;> decide
            obtain ⟨g', cap', hv', hgb', hgl', hcap', hcellc, hfroc, hsetc⟩ := owns_at hrc hm0
            cases hv'
            have hlc := hcellc 1 _ hyl.out
            have hfc := hfroc 1
            obtain ⟨hgS, hrS⟩ := hsetc 1 (.string (y0.letter ++ y))
            clear hcellc hfroc hsetc hgb' hgl' hcap' hy hSl hsc hgc
            have hcat : ¬ 9223372036854775807 < y0.letter.size + y.size := by omega
            refine wpAnyH_take (i := 7) (v := ?vr8_7) rfl (by kernel_rfl) (by kernel_rfl) (by kernel_rfl) (fun _ _ _ h => h) (Or.inl ⟨rfl, ?yr8_7⟩) trivial ?_
            case yr8_7 => (intro w hSw; go_simp; (try rw [if_neg hcat]); first | done | with_reducible rfl)
            try simp only [List.getElem_toArray, List.getElem_cons_succ, List.getElem_cons_zero, Act.put, List.setIfInBounds_toArray, List.set_cons_zero, List.set_cons_succ]
            clear hcat
            refine wpAnyH_take (i := 8) (v := ?vr9_8) rfl (by kernel_rfl) (by kernel_rfl) (by kernel_rfl) (fun _ _ _ h => h) (Or.inl ⟨rfl, ?yr9_8⟩) trivial ?_
            case yr9_8 => (intro w hSw; go_simp; first | done | with_reducible rfl)
            try simp only [List.getElem_toArray, List.getElem_cons_succ, List.getElem_cons_zero, Act.put, List.setIfInBounds_toArray, List.set_cons_zero, List.set_cons_succ]
            refine wpAnyH_take (i := 9) (v := ?vr10_9) rfl (by kernel_rfl) (by kernel_rfl) (by kernel_rfl) (fun _ _ _ h => h) (Or.inl ⟨rfl, ?yr10_9⟩) trivial ?_
            case yr10_9 => (intro w hSw; go_simp; first | done | with_reducible rfl)
            try simp only [List.getElem_toArray, List.getElem_cons_succ, List.getElem_cons_zero, Act.put, List.setIfInBounds_toArray, List.set_cons_zero, List.set_cons_succ]
            refine wpAnyH_ready (rs := [10]) (by kernel_rfl) (by simp) ?_
            refine AllReadyH.cons rfl (fun K hK => ?_) AllReadyH.nil
            go_simp
            refine hK.out _ _ trivial (fun _ => ?_)
            clear hK K
            try simp only [List.getElem_toArray, List.getElem_cons_succ, List.getElem_cons_zero, Act.put, List.setIfInBounds_toArray, List.set_cons_zero, List.set_cons_succ]
            refine wpAnyH_done (by kernel_rfl) ?_ _
            have hD6 := SD.youngO hDc hgS (fun q hq => by cases hq; exact hgb)
            have hr6 : (wc.setCell ⟨g, 1, none⟩ (.string (y0.letter ++ y))).ownsRow B 41 2 (.slice (some ⟨g, 0, none⟩) ys.length c4) ys.length ((ys.set 0 ⟨y0.place, y0.letter ++ y⟩).flatMap StruckD.cells) := by
              rw [strs_set0 hy0.out]
              exact hrS (by rw [strs_len]; omega)
            have hz3 : Hid (∀ x ∈ ys.set 0 ⟨y0.place, y0.letter ++ y⟩, str3 x) := Lib.hid (set_str3 hys3.out hy0w.1 (by rw [ByteArray.size_append]; omega))
            have hzl : (ys.set 0 ⟨y0.place, y0.letter ++ y⟩).length = ys.length := List.length_set
            generalize wc.setCell ⟨g, 1, none⟩ (.string (y0.letter ++ y)) = w6 at *
            generalize ys.set 0 ⟨y0.place, y0.letter ++ y⟩ = zs at *
            clear hgS hrS hDc hrc hDa hra hDd hrd hlc hla hl0 hfc hyb hy0w
            have ho6 := Lib.hid (one_any r 4 5 w6 (SD.src hD6) (by omega) (by omega))
            go_wp2_with fail
            refine ho6.out.mono ?_
            rintro e wk ⟨b6, rfl, hsk, hgk⟩
            have hlt2 := SD.lt2 hD6
            have hDk := SD.pick hD6 hsk hgk
            have hrk := owns_past hr6 hgk (by omega)
            clear ho6 hsk hgk
            cases b6 with
            | true =>
              have hB3 := hDk.lt3
              have h63 : (ys).length + 1 ≤ maxLen := by unfold maxLen; omega
              have hby : ((ys).length + 1) * 24 ≤ 140737488355328 := by omega
              go_wp2_with (at_builtin; refine wpList_append_own _ rfl _ _ 26 rfl B 41 j0 _ 2 24 Try.underlying26 hj hy0' hy1' hy2' rfl (by decide) _ _ _ rfl (World.ownsRow.alloc hrk _) ⟨wk.heap.size, 0, none⟩ 1 1 [.int .i64 0, .string ⟨#[]⟩] rfl rfl ?a1 ?b1 h63 hby ?e1 ?_)
              case a1 =>
                intro i u hi
                match i, hi with
                | 0, hi => cases hi; exact cell_new (by simp [Addr.add]) rfl
                | 1, hi => cases hi; exact cell_new (by simp [Addr.add]) rfl
                | i + 2, hi => simp at hi
              case b1 =>
                intro u hu
                simp only [List.mem_cons, List.not_mem_nil, or_false] at hu
                rcases hu with rfl | rfl <;> rfl
              case e1 => simp; omega
              intro v' w9 hown9 hgr9 hnil
              have hgA := grown_trans (grown_below (below_a1 wk _) _) hgr9
              have hD9 := SD.youngO hDk hgA (fun q hq => act_base hrk q hq)
              have hrow9 : w9.ownsRow B 41 2 v' (zs ++ [(⟨0, ⟨#[]⟩⟩ : StruckD)]).length ((zs ++ [(⟨0, ⟨#[]⟩⟩ : StruckD)]).flatMap StruckD.cells) := by
                rw [st_snoc4, List.length_append, hzl]
                exact hown9
              have hgd9 := Lib.hid (add_str3 hz3.out (y := ⟨0, ⟨#[]⟩⟩) ⟨rfl, Nat.zero_le _⟩)
              clear hown9 hgr9 hnil hgA hrk hDk
              obtain ⟨A9, c9, hv9⟩ := owns_slice hrow9
              cases hv9
              have hyB := owns_strucks hrow9 rfl
              have hsd := hD9
              clear hrow9
              go_wp2
              go_ret2
              unfold SSOut
              exact ⟨_, _, c', ys, A9, _, c9, _, rfl, by omega, by (try simp only [List.length_append, List.length_cons, List.length_nil]); omega, hsd.row, hyB, fun x hx => (hyg.out x hx).str3, hgd9.out, hsd.bel⟩
            | false =>
              have hyB := owns_strucks hrk hzl
              have hsd := hDk
              clear hrk
              go_wp2
              go_ret2
              unfold SSOut
              exact ⟨_, _, c', ys, some ⟨g, 0, none⟩, _, c4, zs, rfl, by omega, by (try simp only [List.length_append, List.length_cons, List.length_nil]); omega, hsd.row, hyB, fun x hx => (hyg.out x hx).str3, hz3.out, hsd.bel⟩
          · go_simp
            refine (text_any r 2 (some ⟨q, 0, none⟩) 2 2 [⟨#[]⟩, ⟨#[120]⟩] wa (SD.src hDa) (by omega) hSl (by omega) (by omega) (fun p hp => by cases hp; simp only; omega)).mono ?_
            rintro e wc ⟨y, hy, rfl, hsc, hgc⟩
            go_wp2_with fail
            refine hK.out _ _ trivial (fun _ => ?_)
            clear hK K
            try simp only [List.getElem_toArray, List.getElem_cons_succ, List.getElem_cons_zero, Act.put, List.setIfInBounds_toArray, List.set_cons_zero, List.set_cons_succ]
            have hDc := SD.pick hDa hsc hgc
            have hrc := owns_past hra hgc (by omega)
            have hyb : y.size ≤ 1 := by
              simp only [List.mem_cons, List.not_mem_nil, or_false] at hy
              rcases hy with rfl | rfl <;> decide
            obtain ⟨g', cap', hv', hgb', hgl', hcap', hcellc, hfroc, hsetc⟩ := owns_at hrc hm0
            cases hv'
            have hlc := hcellc 1 _ hyl.out
            have hfc := hfroc 1
            obtain ⟨hgS, hrS⟩ := hsetc 1 (.string (y0.letter ++ y))
            clear hcellc hfroc hsetc hgb' hgl' hcap' hy hSl hsc hgc
            refine wpAnyH_ready (rs := [3]) (by kernel_rfl) (by simp) ?_
            refine AllReadyH.cons rfl (fun K hK => ?_) AllReadyH.nil
            go_simp
            refine hK.out _ _ trivial (fun _ => ?_)
            clear hK K
            try simp only [List.getElem_toArray, List.getElem_cons_succ, List.getElem_cons_zero, Act.put, List.setIfInBounds_toArray, List.set_cons_zero, List.set_cons_succ]
            have hcat : ¬ 9223372036854775807 < y0.letter.size + y.size := by omega
            refine wpAnyH_take (i := 7) (v := ?vr11_7) rfl (by kernel_rfl) (by kernel_rfl) (by kernel_rfl) (fun _ _ _ h => h) (Or.inl ⟨rfl, ?yr11_7⟩) trivial ?_
            case yr11_7 => (intro w hSw; go_simp; (try rw [if_neg hcat]); first | done | with_reducible rfl)
            try simp only [List.getElem_toArray, List.getElem_cons_succ, List.getElem_cons_zero, Act.put, List.setIfInBounds_toArray, List.set_cons_zero, List.set_cons_succ]
            clear hcat
            refine wpAnyH_take (i := 8) (v := ?vr12_8) rfl (by kernel_rfl) (by kernel_rfl) (by kernel_rfl) (fun _ _ _ h => h) (Or.inl ⟨rfl, ?yr12_8⟩) trivial ?_
            case yr12_8 => (intro w hSw; go_simp; first | done | with_reducible rfl)
            try simp only [List.getElem_toArray, List.getElem_cons_succ, List.getElem_cons_zero, Act.put, List.setIfInBounds_toArray, List.set_cons_zero, List.set_cons_succ]
            refine wpAnyH_take (i := 9) (v := ?vr13_9) rfl (by kernel_rfl) (by kernel_rfl) (by kernel_rfl) (fun _ _ _ h => h) (Or.inl ⟨rfl, ?yr13_9⟩) trivial ?_
            case yr13_9 => (intro w hSw; go_simp; first | done | with_reducible rfl)
            try simp only [List.getElem_toArray, List.getElem_cons_succ, List.getElem_cons_zero, Act.put, List.setIfInBounds_toArray, List.set_cons_zero, List.set_cons_succ]
            refine wpAnyH_ready (rs := [10]) (by kernel_rfl) (by simp) ?_
            refine AllReadyH.cons rfl (fun K hK => ?_) AllReadyH.nil
            go_simp
            refine hK.out _ _ trivial (fun _ => ?_)
            clear hK K
            try simp only [List.getElem_toArray, List.getElem_cons_succ, List.getElem_cons_zero, Act.put, List.setIfInBounds_toArray, List.set_cons_zero, List.set_cons_succ]
            refine wpAnyH_done (by kernel_rfl) ?_ _
            have hD6 := SD.youngO hDc hgS (fun q hq => by cases hq; exact hgb)
            have hr6 : (wc.setCell ⟨g, 1, none⟩ (.string (y0.letter ++ y))).ownsRow B 41 2 (.slice (some ⟨g, 0, none⟩) ys.length c4) ys.length ((ys.set 0 ⟨y0.place, y0.letter ++ y⟩).flatMap StruckD.cells) := by
              rw [strs_set0 hy0.out]
              exact hrS (by rw [strs_len]; omega)
            have hz3 : Hid (∀ x ∈ ys.set 0 ⟨y0.place, y0.letter ++ y⟩, str3 x) := Lib.hid (set_str3 hys3.out hy0w.1 (by rw [ByteArray.size_append]; omega))
            have hzl : (ys.set 0 ⟨y0.place, y0.letter ++ y⟩).length = ys.length := List.length_set
            generalize wc.setCell ⟨g, 1, none⟩ (.string (y0.letter ++ y)) = w6 at *
            generalize ys.set 0 ⟨y0.place, y0.letter ++ y⟩ = zs at *
            clear hgS hrS hDc hrc hDa hra hDd hrd hlc hla hl0 hfc hyb hy0w
            have ho6 := Lib.hid (one_any r 4 5 w6 (SD.src hD6) (by omega) (by omega))
            go_wp2_with fail
            refine ho6.out.mono ?_
            rintro e wk ⟨b6, rfl, hsk, hgk⟩
            have hlt2 := SD.lt2 hD6
            have hDk := SD.pick hD6 hsk hgk
            have hrk := owns_past hr6 hgk (by omega)
            clear ho6 hsk hgk
            cases b6 with
            | true =>
              have hB3 := hDk.lt3
              have h63 : (ys).length + 1 ≤ maxLen := by unfold maxLen; omega
              have hby : ((ys).length + 1) * 24 ≤ 140737488355328 := by omega
              go_wp2_with (at_builtin; refine wpList_append_own _ rfl _ _ 26 rfl B 41 j0 _ 2 24 Try.underlying26 hj hy0' hy1' hy2' rfl (by decide) _ _ _ rfl (World.ownsRow.alloc hrk _) ⟨wk.heap.size, 0, none⟩ 1 1 [.int .i64 0, .string ⟨#[]⟩] rfl rfl ?a1 ?b1 h63 hby ?e1 ?_)
              case a1 =>
                intro i u hi
                match i, hi with
                | 0, hi => cases hi; exact cell_new (by simp [Addr.add]) rfl
                | 1, hi => cases hi; exact cell_new (by simp [Addr.add]) rfl
                | i + 2, hi => simp at hi
              case b1 =>
                intro u hu
                simp only [List.mem_cons, List.not_mem_nil, or_false] at hu
                rcases hu with rfl | rfl <;> rfl
              case e1 => simp; omega
              intro v' w9 hown9 hgr9 hnil
              have hgA := grown_trans (grown_below (below_a1 wk _) _) hgr9
              have hD9 := SD.youngO hDk hgA (fun q hq => act_base hrk q hq)
              have hrow9 : w9.ownsRow B 41 2 v' (zs ++ [(⟨0, ⟨#[]⟩⟩ : StruckD)]).length ((zs ++ [(⟨0, ⟨#[]⟩⟩ : StruckD)]).flatMap StruckD.cells) := by
                rw [st_snoc4, List.length_append, hzl]
                exact hown9
              have hgd9 := Lib.hid (add_str3 hz3.out (y := ⟨0, ⟨#[]⟩⟩) ⟨rfl, Nat.zero_le _⟩)
              clear hown9 hgr9 hnil hgA hrk hDk
              obtain ⟨A9, c9, hv9⟩ := owns_slice hrow9
              cases hv9
              have hyB := owns_strucks hrow9 rfl
              have hsd := hD9
              clear hrow9
              go_wp2
              go_ret2
              unfold SSOut
              exact ⟨_, _, c', ys, A9, _, c9, _, rfl, by omega, by (try simp only [List.length_append, List.length_cons, List.length_nil]); omega, hsd.row, hyB, fun x hx => (hyg.out x hx).str3, hgd9.out, hsd.bel⟩
            | false =>
              have hyB := owns_strucks hrk hzl
              have hsd := hDk
              clear hrk
              go_wp2
              go_ret2
              unfold SSOut
              exact ⟨_, _, c', ys, some ⟨g, 0, none⟩, _, c4, zs, rfl, by omega, by (try simp only [List.length_append, List.length_cons, List.length_nil]); omega, hsd.row, hyB, fun x hx => (hyg.out x hx).str3, hz3.out, hsd.bel⟩
      | false =>
        have ho6 := Lib.hid (one_any r 2 5 w5 (SD.src hD5) (by omega) (by omega))
        go_wp2_with fail
        refine ho6.out.mono ?_
        rintro e wk ⟨b6, rfl, hsk, hgk⟩
        have hlt2 := SD.lt2 hD5
        have hDk := SD.pick hD5 hsk hgk
        have hrk := owns_past hrow5 hgk (by omega)
        clear ho6 hsk hgk
        cases b6 with
        | true =>
          have hB3 := hDk.lt3
          have h63 : (ys).length + 1 ≤ maxLen := by unfold maxLen; omega
          have hby : ((ys).length + 1) * 24 ≤ 140737488355328 := by omega
          go_wp2_with (at_builtin; refine wpList_append_own _ rfl _ _ 26 rfl B 41 j0 _ 2 24 Try.underlying26 hj hy0' hy1' hy2' rfl (by decide) _ _ _ rfl (World.ownsRow.alloc hrk _) ⟨wk.heap.size, 0, none⟩ 1 1 [.int .i64 0, .string ⟨#[]⟩] rfl rfl ?a1 ?b1 h63 hby ?e1 ?_)
          case a1 =>
            intro i u hi
            match i, hi with
            | 0, hi => cases hi; exact cell_new (by simp [Addr.add]) rfl
            | 1, hi => cases hi; exact cell_new (by simp [Addr.add]) rfl
            | i + 2, hi => simp at hi
          case b1 =>
            intro u hu
            simp only [List.mem_cons, List.not_mem_nil, or_false] at hu
            rcases hu with rfl | rfl <;> rfl
          case e1 => simp; omega
          intro v' w9 hown9 hgr9 hnil
          have hgA := grown_trans (grown_below (below_a1 wk _) _) hgr9
          have hD9 := SD.youngO hDk hgA (fun q hq => act_base hrk q hq)
          have hrow9 : w9.ownsRow B 41 2 v' (ys ++ [(⟨0, ⟨#[]⟩⟩ : StruckD)]).length ((ys ++ [(⟨0, ⟨#[]⟩⟩ : StruckD)]).flatMap StruckD.cells) := by
            rw [st_snoc4, List.length_append]
            exact hown9
          have hgd9 := Lib.hid (add_str3 hys3.out (y := ⟨0, ⟨#[]⟩⟩) ⟨rfl, Nat.zero_le _⟩)
          clear hown9 hgr9 hnil hgA hrk hDk
          obtain ⟨A9, c9, hv9⟩ := owns_slice hrow9
          cases hv9
          have hyB := owns_strucks hrow9 rfl
          have hsd := hD9
          clear hrow9
          go_wp2
          go_ret2
          unfold SSOut
          exact ⟨_, _, c', ys, A9, _, c9, _, rfl, by omega, by (try simp only [List.length_append, List.length_cons, List.length_nil]); omega, hsd.row, hyB, fun x hx => (hyg.out x hx).str3, hgd9.out, hsd.bel⟩
        | false =>
          have hyB := owns_strucks hrk rfl
          have hsd := hDk
          clear hrk
          go_wp2
          go_ret2
          unfold SSOut
          exact ⟨_, _, c', ys, A4, _, c4, ys, rfl, by omega, by (try simp only [List.length_append, List.length_cons, List.length_nil]); omega, hsd.row, hyB, fun x hx => (hyg.out x hx).str3, hys3.out, hsd.bel⟩
    · have gm : decide ((0 : Int) < (ys.length : Int)) = false := decide_eq_false (by omega)
      obtain ⟨A4, c4, hv4⟩ := owns_slice hrow4
      subst hv4
      have ho6 := Lib.hid (one_any r 0 5 w4 (SD.src hD4) (by omega) (by omega))
      go_wp2_with fail
      refine ho6.out.mono ?_
      rintro e wk ⟨b6, rfl, hsk, hgk⟩
      have hlt2 := SD.lt2 hD4
      have hDk := SD.pick hD4 hsk hgk
      have hrk := owns_past hrow4 hgk (by omega)
      clear ho6 hsk hgk
      cases b6 with
      | true =>
        have hB3 := hDk.lt3
        have h63 : (ys).length + 1 ≤ maxLen := by unfold maxLen; omega
        have hby : ((ys).length + 1) * 24 ≤ 140737488355328 := by omega
        go_wp2_with (at_builtin; refine wpList_append_own _ rfl _ _ 26 rfl B 41 j0 _ 2 24 Try.underlying26 hj hy0' hy1' hy2' rfl (by decide) _ _ _ rfl (World.ownsRow.alloc hrk _) ⟨wk.heap.size, 0, none⟩ 1 1 [.int .i64 0, .string ⟨#[]⟩] rfl rfl ?a1 ?b1 h63 hby ?e1 ?_)
        case a1 =>
          intro i u hi
          match i, hi with
          | 0, hi => cases hi; exact cell_new (by simp [Addr.add]) rfl
          | 1, hi => cases hi; exact cell_new (by simp [Addr.add]) rfl
          | i + 2, hi => simp at hi
        case b1 =>
          intro u hu
          simp only [List.mem_cons, List.not_mem_nil, or_false] at hu
          rcases hu with rfl | rfl <;> rfl
        case e1 => simp; omega
        intro v' w9 hown9 hgr9 hnil
        have hgA := grown_trans (grown_below (below_a1 wk _) _) hgr9
        have hD9 := SD.youngO hDk hgA (fun q hq => act_base hrk q hq)
        have hrow9 : w9.ownsRow B 41 2 v' (ys ++ [(⟨0, ⟨#[]⟩⟩ : StruckD)]).length ((ys ++ [(⟨0, ⟨#[]⟩⟩ : StruckD)]).flatMap StruckD.cells) := by
          rw [st_snoc4, List.length_append]
          exact hown9
        have hgd9 := Lib.hid (add_str3 hys3.out (y := ⟨0, ⟨#[]⟩⟩) ⟨rfl, Nat.zero_le _⟩)
        clear hown9 hgr9 hnil hgA hrk hDk
        obtain ⟨A9, c9, hv9⟩ := owns_slice hrow9
        cases hv9
        have hyB := owns_strucks hrow9 rfl
        have hsd := hD9
        clear hrow9
        go_wp2
        go_ret2
        unfold SSOut
        exact ⟨_, _, c', ys, A9, _, c9, _, rfl, by omega, by (try simp only [List.length_append, List.length_cons, List.length_nil]); omega, hsd.row, hyB, fun x hx => (hyg.out x hx).str3, hgd9.out, hsd.bel⟩
      | false =>
        have hyB := owns_strucks hrk rfl
        have hsd := hDk
        clear hrk
        go_wp2
        go_ret2
        unfold SSOut
        exact ⟨_, _, c', ys, A4, _, c4, ys, rfl, by omega, by (try simp only [List.length_append, List.length_cons, List.length_nil]); omega, hsd.row, hyB, fun x hx => (hyg.out x hx).str3, hys3.out, hsd.bel⟩
end Go.Proofs.Ytphhpmnigchooaa
