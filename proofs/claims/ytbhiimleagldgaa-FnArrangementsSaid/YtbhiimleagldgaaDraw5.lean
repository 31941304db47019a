/- Tables of pairs that are drawn. -/
import Derived.Test.YtbhiimleagldgaaSrc
import Derived.Test.YtbhiimleagldgaaDrawn
import Derived.Test.YtbhiimleagldgaaPair2
namespace Go.Proofs.Ytbhiimleagldgaa
open Go.RowKit
set_option linter.unusedVariables false
set_option linter.unusedSimpArgs false

theorem ge_own5 {w : World} {base : Nat} {E : TypeId} {size n g : Nat} {v : Value} {xs : List Value} (h : w.ownsRow base E size v n xs) (hg : v.ownBlock = some g) : base ≤ g ∧ g < w.heap.size := by
  obtain ⟨_, ⟨rfl, _⟩ | ⟨g', cap, cur, rfl, hb, hh, _⟩⟩ := h
  · cases hg
  · cases hg; exact ⟨hb, (Array.getElem?_eq_some_iff.1 hh).1⟩
theorem owns_block {w w' : World} {base : Nat} {E : TypeId} {size n : Nat} {v : Value} {xs : List Value} (h : w.ownsRow base E size v n xs) (hk : ∀ g, v.ownBlock = some g → w'.heap[g]? = w.heap[g]?) : w'.ownsRow base E size v n xs := by
  obtain ⟨h1, ⟨rfl, h2⟩ | ⟨g', cap, cur, rfl, hb, hh, h3⟩⟩ := h
  · exact ⟨h1, .inl ⟨rfl, h2⟩⟩
  · exact ⟨h1, .inr ⟨g', cap, cur, rfl, hb, (hk g' rfl).trans hh, h3⟩⟩
/-- A slice that grows, of rows that stay. -/
def RInv (base k : Nat) (v : Value) (rs : List RowD) (T : List (List Int)) (w : World) : Prop :=
  rs.length = k ∧ T.length = k ∧ w.ownsRow base 29 1 v k (rs.flatMap RowD.cells) ∧
    (∀ (i : Nat) (r : RowD) (xs : List Int), rs[i]? = some r → T[i]? = some xs → OInts w base r.A r.n xs ∧ r.n ≤ 1048576) ∧
    (∀ (i : Nat) (r : RowD) (p : Addr), rs[i]? = some r → r.A = some p → v.ownBlock ≠ some p.block)
theorem RInv.kept {base k : Nat} {v : Value} {rs : List RowD} {T : List (List Int)} {w w' : World} (h : RInv base k v rs T w) (hk : ∀ g, base ≤ g → g < w.heap.size → w'.heap[g]? = w.heap[g]?) : RInv base k v rs T w' := by
  obtain ⟨h1, h2, h3, h4, h5⟩ := h
  exact ⟨h1, h2, owns_block h3 (fun g hg => hk g (ge_own5 h3 hg).1 (ge_own5 h3 hg).2), fun i r xs hr hx => ⟨(h4 i r xs hr hx).1.block (fun p hp => hk _ ((h4 i r xs hr hx).1.own p hp) ((h4 i r xs hr hx).1.lt p hp)), (h4 i r xs hr hx).2⟩, h5⟩
theorem RInv.step {base k g cap M m c : Nat} {v : Value} {rs : List RowD} {T : List (List Int)} {A : Option Addr} {xs : List Int} {w w1 w5 : World} (h : RInv base k v rs T w) (hM : ∀ q, v.ownBlock = some q → q < M) (hbM : base ≤ M)
    (hb : Below w.heap.size w w1) (hnew : OInts w M A m xs) (hm : m ≤ 1048576)
    (ho : w5.ownsRow base 29 1 (.slice (some ⟨g, 0, none⟩) (k + 1) cap) (k + 1) (rs.flatMap RowD.cells ++ [.slice A m c]))
    (hg : w1.grownBy w5 v.ownBlock) (hor : v.ownBlock = some g ∨ g = w1.heap.size) : RInv base (k + 1) (.slice (some ⟨g, 0, none⟩) (k + 1) cap) (rs ++ [⟨A, m, c⟩]) (T ++ [xs]) w5 := by
  obtain ⟨h1, h2, h3, h4, h5⟩ := h
  have hsz := hb.size
  have hlook : ∀ {α : Type} {l : List α} {y : α} (hl : l.length = k) (i : Nat) (z : α), (l ++ [y])[i]? = some z → (i < k ∧ l[i]? = some z) ∨ (i = k ∧ z = y) := fun {α l y} hl i z hz => by
    rcases Nat.lt_or_ge i k with hi | hi
    · rw [List.getElem?_append_left (by omega)] at hz
      exact .inl ⟨hi, hz⟩
    · rw [List.getElem?_append_right (by omega)] at hz
      rcases Nat.lt_or_ge (i - l.length) 1 with h0 | h0
      · obtain rfl : i = k := by omega
        simp [hl] at hz
        exact .inr ⟨rfl, hz.symm⟩
      · rw [List.getElem?_eq_none (by simpa using h0)] at hz
        cases hz
  refine ⟨by simp [h1], by simp [h2], by rw [List.flatMap_append]; exact ho, fun i r ys hr hy => ?_, fun i r p hr hp => ?_⟩
  · rcases hlook h1 i r hr with ⟨hi, h0⟩ | ⟨rfl, rfl⟩
    · rcases hlook h2 i ys hy with ⟨_, y0⟩ | ⟨hik, _⟩
      · obtain ⟨a1, a2⟩ := h4 i r ys h0 y0
        refine ⟨(a1.below hb).block fun p hp => hg.block _ ?_ ?_, a2⟩
        · have := a1.lt p hp; omega
        · intro e; exact h5 i r p h0 hp e.symm
      · omega
    · rcases hlook h2 i ys hy with ⟨hi, _⟩ | ⟨_, rfl⟩
      · omega
      · refine ⟨((hnew.mono hbM).below hb).block fun p hp => hg.block _ ?_ ?_, hm⟩
        · have := hnew.lt p hp; omega
        · intro e
          have h8 := hM _ e.symm
          have h9 := hnew.own p hp
          omega
  · intro e
    simp only [Value.ownBlock, Option.some.injEq] at e
    rcases hlook h1 i r hr with ⟨hi, h0⟩ | ⟨rfl, rfl⟩
    · rcases Nat.lt_or_ge i T.length with hiT | hiT
      · have hp2 := (h4 i r _ h0 (List.getElem?_eq_getElem hiT)).1.lt p hp
        have hv := h5 i r p h0 hp
        rcases hor with h9 | h9
        · rw [h9, e] at hv; exact hv rfl
        · omega
      · omega
    · have hp2 := hnew.lt p hp
      have hp3 := hnew.own p hp
      rcases hor with h9 | h9
      · have := hM _ h9; omega
      · omega
theorem RInv.read {base n : Nat} {v : Value} {rs : List RowD} {T : List (List Int)} {w : World} (h : RInv base n v rs T w) : ∃ A c, v = .slice A n c ∧ n ≤ c ∧ IntSS w A n T := by
  obtain ⟨h1, h2, h3, h4, h5⟩ := h
  subst h1
  have h6 := h3
  obtain ⟨A, c, rfl, hO⟩ := ORow.of_owns (fun (y : RowD) => (rfl : (RowD.cells y).length = 1)) h3
  refine ⟨A, c, rfl, ?_, rs, hO.srow, h2, fun i r xs hr hx => ⟨(h4 i r xs hr hx).1.srow, by have := (h4 i r xs hr hx).2; unfold maxLen; omega⟩⟩
  obtain ⟨_, ⟨h7, h8⟩ | ⟨g, cap, cur, hv, _, _, hc, _⟩⟩ := h6
  · omega
  · cases hv; exact hc
def pairD (n : Nat) (T : List (List Int)) : Prop := ∀ (i : Nat) (xs : List Int), T[i]? = some xs → xs.length = n ∧ ∀ (k : Nat) (x : Int), xs[k]? = some x → 0 ≤ x ∧ x ≤ 1000
theorem pairD.add {n : Nat} {T : List (List Int)} {ys : List Int} (h : pairD n T) (hl : ys.length = n) (hy : ∀ (k : Nat) (x : Int), ys[k]? = some x → 0 ≤ x ∧ x ≤ 1000) : pairD n (T ++ [ys]) := fun i xs hx => by
  rcases List.mem_append.1 (List.mem_of_getElem? hx) with hm | hm
  · obtain ⟨j, hj, rfl⟩ := List.getElem_of_mem hm
    exact h j _ (List.getElem?_eq_getElem hj)
  · rw [List.mem_singleton] at hm
    subst hm
    exact ⟨hl, hy⟩
theorem add_num {xs : List Int} {z : Int} (h : ∀ (k : Nat) (x : Int), xs[k]? = some x → 0 ≤ x ∧ x ≤ 1000) (hz : 0 ≤ z ∧ z ≤ 1000) : ∀ (k : Nat) (x : Int), (xs ++ [z])[k]? = some x → 0 ≤ x ∧ x ≤ 1000 := fun k x hx => by
  rcases List.mem_append.1 (List.mem_of_getElem? hx) with hm | hm
  · obtain ⟨j, hj, rfl⟩ := List.getElem_of_mem hm
    exact h j _ (List.getElem?_eq_getElem hj)
  · rw [List.mem_singleton] at hm
    subst hm
    exact hz
theorem ints_snoc (xs : List Int) (z : Int) : (xs ++ [z]).flatMap intC = xs.flatMap intC ++ [.int .i64 z] := by simp [intC]
theorem empty_owns (w : World) (E : TypeId) (N : Nat) (hN : N ≤ w.heap.size) : (w.alloc (.cells #[] E)).ownsRow N E 1 (.slice (some ⟨w.heap.size, 0, none⟩) 0 0) 0 [] := by
  have := World.ownsRow_lit (w := w) (e := E) (base := N) (size := 1) #[] 0 hN (by simp [maxLen]) (by simp)
  simpa using this
def DpOut (r t n : Nat) (w : World) (e : Ending) (w' : World) : Prop :=
  ∃ A c T, e = .returned (.slice A n c) ∧ n ≤ c ∧ IntSS w' A n T ∧ pairD n T ∧ SrcAt w' r (t + 400) ∧ Drawn r w.heap.size w w'

set_option maxRecDepth 100000 in
set_option maxHeartbeats 4000000 in
theorem l05draw_any (r t n : Nat) (w : World) (h : SrcAt w r t) (ht : t ≤ 1000000) (hn : n ≤ 8) :
    Calls Try.prog 23 #[.pointer (some ⟨r, 0, none⟩), .int .i64 (n : Int)] w (DpOut r t n w) := by
  have hrl := h.lt
  obtain ⟨i0, hi, hz0, hz1, hz2⟩ := info_parts Try.infoIntS
  obtain ⟨j0, hj, hy0, hy1, hy2⟩ := info_parts Try.infoI64
  have hb0 := below_a1 w (.cells #[] 29)
  have hs0 := Lib.hid (h.below hb0)
  have hd0 := Lib.hid ((Drawn.refl r w.heap.size w).below hb0 (Nat.le_refl _))
  have hN0 := Lib.hid hb0.size
  have hR0 : Hid (RInv w.heap.size 0 (.slice (some ⟨w.heap.size, 0, none⟩) 0 0) [] [] (w.alloc (.cells #[] 29))) := Lib.hid ⟨rfl, rfl, empty_owns w _ _ (Nat.le_refl _), (fun i r xs hr => by simp at hr), (fun i r p hr => by simp at hr)⟩
  clear hb0 h
  go_enter Try.func23, Try.ntmps23
  go_wp2
  go_loopw [5, 6] (fun v i wr => ∃ (k : Nat) (rs : List RowD) (T : List (List Int)), k ≤ n ∧ i = .int .i64 k ∧ RInv w.heap.size k v rs T wr ∧ pairD n T ∧ SrcAt wr r (t + 40 * k) ∧ Drawn r w.heap.size w wr ∧ w.heap.size ≤ wr.heap.size) (fun _ i _ => n - (intOf i).toNat)
  case atStart => exact ⟨0, [], [], by omega, rfl, hR0.out, (fun i xs hx => by simp at hx), hs0.out, hd0.out, hN0.out⟩
  case round =>
    obtain ⟨k, rs, T, hk, rfl, hR, hT, hsr, hdr, hNr⟩ := hrel
    rename World => wo
    by_cases hlt : k < n
    · have hk0 : (0 : Int) ≤ (k : Int) := Int.natCast_nonneg _
      have hk1 : (k : Int) < (n : Int) := by omega
      have hvn : ∃ A c, u5 = .slice A k c := by obtain ⟨A, c, e, _⟩ := hR.read; exact ⟨A, c, e⟩
      obtain ⟨A5, c5, rfl⟩ := hvn
      have hrlo : r < wo.heap.size := hsr.lt
      have hb1 := below_a1 wo (.cells #[] 2)
      have hs1 := Lib.hid (hsr.below hb1)
      have hd1 := Lib.hid ((Drawn.refl r wo.heap.size wo).below hb1 (Nat.le_refl _))
      have hN1 := Lib.hid hb1.size
      have ho1 := Lib.hid (empty_owns wo 2 wo.heap.size (Nat.le_refl _))
      have hR' := Lib.hid hR
      have hT' := Lib.hid hT
      have hdr' := Lib.hid hdr
      clear hb1 hR hT hsr hdr
      go_wp2
      go_loopw [7, 8] (fun v i wq => ∃ xs : List Int, xs.length ≤ n ∧ i = .int .i64 xs.length ∧ wq.ownsRow wo.heap.size 2 1 v xs.length (xs.flatMap intC) ∧ (∀ (k : Nat) (x : Int), xs[k]? = some x → 0 ≤ x ∧ x ≤ 1000) ∧ SrcAt wq r (t + 40 * k + 4 * xs.length) ∧ Drawn r wo.heap.size wo wq ∧ wo.heap.size ≤ wq.heap.size) (fun _ i _ => n - (intOf i).toNat)
      case atStart => exact ⟨[], by simp, rfl, ho1.out, (fun k x hx => by simp at hx), hs1.out.mono (by simp), hd1.out, hN1.out⟩
      case round =>
        obtain ⟨xs, hxl, rfl, hown, hxb, hsq, hdq, hNq⟩ := hrel
        rename World => wq
        have hxb' := Lib.hid hxb
        clear hxb
        by_cases hltq : xs.length < n
        · have hq1 : (xs.length : Int) < (n : Int) := by omega
          obtain ⟨A7, c7, rfl⟩ := owns_slice hown
          have hone := Lib.hid (one_any r _ 2 wq hsq (by omega) (by omega))
          have hown' := Lib.hid hown
          clear hown hsq
          go_wp2_with fail
          refine (hone.out).mono ?_
          rintro e w3 ⟨bb, rfl, hs3, hg3⟩
          have hown3 := Lib.hid (owns_past hown'.out hg3 hrlo)
          have hd3 := Lib.hid (hdq.pick hg3 hNq)
          have hN3 := Nat.le_trans hNq hg3.size
          clear hg3
          cases bb with
          | true =>
            have hs3' := Lib.hid hs3
            clear hs3
            go_wp2_with (at_builtin; refine wpList_append_own _ rfl _ _ 29 rfl wo.heap.size 2 j0 _ 1 8 Try.underlying29 hj hy0 hy1 hy2 rfl (by decide) _ _ _ rfl (hown3.out.alloc _) ⟨w3.heap.size, 0, none⟩ 1 1 [.int .i64 0] rfl rfl ?a1 ?b1 ?c1 ?d1 ?e1 ?_)
            case a1 =>
              intro j u hj
              match j, hj with
              | 0, hj => cases hj; exact cell_new (by simp [Addr.add]) rfl
              | j + 1, hj => simp at hj
            case b1 =>
              intro u hu
              simp only [List.mem_cons, List.not_mem_nil, or_false] at hu
              rcases hu with rfl; rfl
            case c1 => unfold maxLen; omega
            case d1 => omega
            case e1 => simp; omega
            intro v2 w5 hown5 hgr5 hnil
            have hrow5 : Hid (w5.ownsRow wo.heap.size 2 1 v2 (xs ++ [0]).length ((xs ++ [0]).flatMap intC)) := Lib.hid (by rw [ints_snoc, List.length_append]; exact hown5)
            have hd5 := Lib.hid ((hd3.out.below (below_a1 w3 _) hN3).youngO hgr5 (by simp; omega) (fun q hq => (ge_own5 hown3.out hq).1))
            have hs5 := Lib.hid ((hs3'.out.below (below_a1 w3 _)).grownO hgr5 (fun q hq => by have := (ge_own5 hown3.out hq).1; omega))
            have hN5 : wo.heap.size ≤ w5.heap.size := by have := hgr5.size; simp at this; omega
            have hb5 := Lib.hid (add_num hxb'.out (z := 0) (by omega))
            clear hown5 hgr5 hnil
            go_wp2
            go_roundw
            case rel => exact ⟨xs ++ [0], by simp; omega, by simp, hrow5.out, hb5.out, hs5.out.mono (by simp; omega), hd5.out, hN5⟩
            case measure => simp [intOf]; omega
          | false =>
            have hpk := Lib.hid (pick_any r _ 20 w3 hs3 (by omega) (by omega))
            clear hs3
            go_wp2_with fail
            refine (hpk.out).mono ?_
            rintro e w4 ⟨z, rfl, z0, z1, z2, hs4, hg4⟩
            have z1 := z1 (by omega)
            clear z2
            have hown4 := Lib.hid (owns_past hown3.out hg4 hrlo)
            have hd4 := Lib.hid (hd3.out.pick hg4 hN3)
            have hN4 := Nat.le_trans hN3 hg4.size
            have hs4' := Lib.hid hs4
            clear hg4 hs4
            go_wp2_with (at_builtin; refine wpList_append_own _ rfl _ _ 29 rfl wo.heap.size 2 j0 _ 1 8 Try.underlying29 hj hy0 hy1 hy2 rfl (by decide) _ _ _ rfl (hown4.out.alloc _) ⟨w4.heap.size, 0, none⟩ 1 1 [.int .i64 z] rfl rfl ?a2 ?b2 ?c2 ?d2 ?e2 ?_)
            case a2 =>
              intro j u hj
              match j, hj with
              | 0, hj => cases hj; exact cell_new (by simp [Addr.add]) rfl
              | j + 1, hj => simp at hj
            case b2 =>
              intro u hu
              simp only [List.mem_cons, List.not_mem_nil, or_false] at hu
              rcases hu with rfl; rfl
            case c2 => unfold maxLen; omega
            case d2 => omega
            case e2 => simp; omega
            intro v2 w5 hown5 hgr5 hnil
            have hrow5 : Hid (w5.ownsRow wo.heap.size 2 1 v2 (xs ++ [z]).length ((xs ++ [z]).flatMap intC)) := Lib.hid (by rw [ints_snoc, List.length_append]; exact hown5)
            have hd5 := Lib.hid ((hd4.out.below (below_a1 w4 _) hN4).youngO hgr5 (by simp; omega) (fun q hq => (ge_own5 hown4.out hq).1))
            have hs5 := Lib.hid ((hs4'.out.below (below_a1 w4 _)).grownO hgr5 (fun q hq => by have := (ge_own5 hown4.out hq).1; omega))
            have hN5 : wo.heap.size ≤ w5.heap.size := by have := hgr5.size; simp at this; omega
            have hb5 := Lib.hid (add_num hxb'.out (z := z) (by omega))
            clear hown5 hgr5 hnil
            go_wp2
            go_roundw
            case rel => exact ⟨xs ++ [z], by simp; omega, by simp, hrow5.out, hb5.out, hs5.out.mono (by simp; omega), hd5.out, hN5⟩
            case measure => simp [intOf]; omega
        · have hxn : xs.length = n := by omega
          obtain ⟨A7, c7, rfl, _, hO7⟩ := owns_i rfl hown
          have hRq : RInv w.heap.size k (.slice A5 k c5) rs T wq := hR'.out.kept (fun g hg1 hg2 => hdq.block g hg2 (by omega))
          have hM : ∀ q, (Value.slice A5 k c5).ownBlock = some q → q < wo.heap.size := fun q hq => (ge_own5 hR'.out.2.2.1 hq).2
          have hown9 := Lib.hid hRq.2.2.1
          have hstep := Lib.hid (fun g cap w5 => hRq.step (c := c7) (g := g) (cap := cap) (w5 := w5) hM hNr (below_a1 wq (.cells #[.slice A7 xs.length c7] 29)) hO7 (by omega))
          have hTn := Lib.hid (hT'.out.add hxn hxb'.out)
          have hsq' := Lib.hid hsq
          have hdq' : Hid (Drawn r w.heap.size w wq) := Lib.hid (hdr'.out.trans ⟨hdq.os, hdq.tape, hdq.output, hdq.size, fun g h1 h2 => hdq.block g (by omega) h2⟩)
          have hMO := Lib.hid hM
          have hge : decide (((xs.length : Nat) : Int) < (n : Int)) = false := decide_eq_false (by omega)
          have hge2 : decide (xs.length < n) = false := decide_eq_false (by omega)
          have hxn' := Lib.hid hxn
          clear hRq hM hO7 hown hsq hdq hxn hltq
          go_wp2_with (at_builtin; refine wpList_append_lies _ rfl _ _ 27 rfl w.heap.size 29 i0 _ 1 24 Try.underlying27 hi hz0 hz1 hz2 rfl (by decide) _ k (rs.flatMap RowD.cells) rfl (hown9.out.alloc _) ⟨wq.heap.size, 0, none⟩ 1 1 [.slice A7 xs.length c7] rfl rfl ?a3 ?b3 (by decide) ?c3 ?d3 ?e3 _ rfl ?_)
          case a3 =>
            intro j u hj
            match j, hj with
            | 0, hj => cases hj; exact cell_new (by simp [Addr.add]) rfl
            | j + 1, hj => simp at hj
          case b3 =>
            intro u hu
            simp only [List.mem_cons, List.not_mem_nil, or_false] at hu
            rcases hu with rfl; rfl
          case c3 => unfold maxLen; omega
          case d3 => omega
          case e3 => simp; omega
          intro g cap w5 ho5 hg5 hor5 hlt5
          have hR5 := Lib.hid (hstep.out g cap w5 ho5 hg5 (by simpa using hor5))
          have hd5 := Lib.hid ((hdq'.out.below (below_a1 wq _) (by omega)).youngO hg5 (by simp; omega) (fun q hq => (ge_own5 hown9.out hq).1))
          have hs5 := Lib.hid ((hsq'.out.below (below_a1 wq _)).grownO hg5 (fun q hq => by have := (ge_own5 hown9.out hq).1; omega))
          have hN5 : w.heap.size ≤ w5.heap.size := by have := hg5.size; simp at this; omega
          clear ho5 hg5 hor5
          go_wp2
          go_roundw
          case rel => exact ⟨k + 1, _, _, by omega, by go_num, hR5.out, hTn.out, hs5.out.mono (by have := hxn'.out; omega), hd5.out, hN5⟩
          case measure => simp [intOf]; omega
    · obtain rfl : k = n := by omega
      obtain ⟨A, c, rfl, hc, hI⟩ := hR.read
      have hI' := Lib.hid hI
      have hT' := Lib.hid hT
      have hs' := Lib.hid (hsr.mono (show t + 40 * k ≤ t + 400 by omega))
      have hd' := Lib.hid hdr
      clear hR hI hT hsr hdr
      go_wp2
      go_ret
      exact ⟨A, c, T, rfl, hc, hI'.out, hT'.out, hs'.out, hd'.out⟩
end Go.Proofs.Ytbhiimleagldgaa
