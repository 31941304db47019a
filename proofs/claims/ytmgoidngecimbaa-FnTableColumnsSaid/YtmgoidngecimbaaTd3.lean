/- Tables that are drawn. -/
import Derived.Test.YtmgoidngecimbaaTd2
namespace Go.Proofs.Ytmgoidngecimbaa
open Go.RowKit Go.ChangeShapes Go.WideShapes Go.Deep
set_option linter.unusedVariables false
set_option linter.unusedSimpArgs false

theorem ge_own5 {w : World} {base : Nat} {E : TypeId} {size n g : Nat} {v : Value} {xs : List Value} (h : w.ownsRow base E size v n xs) (hg : v.ownBlock = some g) : base ≤ g ∧ g < w.heap.size := by
  obtain ⟨_, ⟨rfl, _⟩ | ⟨g', cap, cur, rfl, hb, hh, _⟩⟩ := h
  · cases hg
  · cases hg; exact ⟨hb, (Array.getElem?_eq_some_iff.1 hh).1⟩
theorem owns_block {w w' : World} {base : Nat} {E : TypeId} {size n : Nat} {v : Value} {xs : List Value} (h : w.ownsRow base E size v n xs) (hk : ∀ g, v.ownBlock = some g → w'.heap[g]? = w.heap[g]?) : w'.ownsRow base E size v n xs := by
  obtain ⟨h1, ⟨rfl, h2⟩ | ⟨g', cap, cur, rfl, hb, hh, h3⟩⟩ := h
  · exact ⟨h1, .inl ⟨rfl, h2⟩⟩
  · exact ⟨h1, .inr ⟨g', cap, cur, rfl, hb, (hk g' rfl).trans hh, h3⟩⟩
/-- A slice that grows, of rows that stay. -/
def SInv (base k : Nat) (v : Value) (rs : List RowD) (T : List (List ByteArray)) (w : World) : Prop :=
  rs.length = k ∧ T.length = k ∧ w.ownsRow base 27 1 v k (rs.flatMap RowD.cells) ∧
    (∀ (i : Nat) (r : RowD) (xs : List ByteArray), rs[i]? = some r → T[i]? = some xs → OStrs w base r.A r.n xs ∧ r.n ≤ 1000 ∧ r.n ≤ r.c) ∧
    (∀ (i : Nat) (r : RowD) (p : Addr), rs[i]? = some r → r.A = some p → v.ownBlock ≠ some p.block)
theorem SInv.kept {base k : Nat} {v : Value} {rs : List RowD} {T : List (List ByteArray)} {w w' : World} (h : SInv base k v rs T w) (hk : ∀ g, base ≤ g → g < w.heap.size → w'.heap[g]? = w.heap[g]?) : SInv base k v rs T w' := by
  obtain ⟨h1, h2, h3, h4, h5⟩ := h
  exact ⟨h1, h2, owns_block h3 (fun g hg => hk g (ge_own5 h3 hg).1 (ge_own5 h3 hg).2), fun i r xs hr hx => ⟨(h4 i r xs hr hx).1.block (fun p hp => hk _ ((h4 i r xs hr hx).1.own p hp) ((h4 i r xs hr hx).1.lt p hp)), (h4 i r xs hr hx).2⟩, h5⟩
theorem SInv.step {base k g cap M m c : Nat} {v : Value} {rs : List RowD} {T : List (List ByteArray)} {A : Option Addr} {xs : List ByteArray} {w w1 w5 : World} (h : SInv base k v rs T w) (hM : ∀ q, v.ownBlock = some q → q < M) (hbM : base ≤ M)
    (hb : Below w.heap.size w w1) (hnew : OStrs w M A m xs) (hm : m ≤ 1000 ∧ m ≤ c)
    (ho : w5.ownsRow base 27 1 (.slice (some ⟨g, 0, none⟩) (k + 1) cap) (k + 1) (rs.flatMap RowD.cells ++ [.slice A m c]))
    (hg : w1.grownBy w5 v.ownBlock) (hor : v.ownBlock = some g ∨ g = w1.heap.size) : SInv base (k + 1) (.slice (some ⟨g, 0, none⟩) (k + 1) cap) (rs ++ [⟨A, m, c⟩]) (T ++ [xs]) w5 := by
  obtain ⟨h1, h2, h3, h4, h5⟩ := h
  have hsz := hb.size
  have hlook : ∀ {α : Type} {l : List α} {y : α} (hl : l.length = k) (i : Nat) (z : α), (l ++ [y])[i]? = some z → (i < k ∧ l[i]? = some z) ∨ (i = k ∧ z = y) := fun {α l y} hl i z hz => by
    rcases Nat.lt_or_ge i k with hi | hi
    · rw [List.getElem?_append_left (by omega)] at hz
      exact .inl ⟨hi, hz⟩
    · rw [List.getElem?_append_right (by omega)] at hz
      rcases Nat.lt_or_ge (i - l.length) 1 with h0 | h0
      · obtain rfl : i = k := by omega
        simp [hl] at hz
        exact .inr ⟨rfl, hz.symm⟩
      · rw [List.getElem?_eq_none (by simpa using h0)] at hz
        cases hz
  refine ⟨by simp [h1], by simp [h2], by rw [List.flatMap_append]; exact ho, fun i r ys hr hy => ?_, fun i r p hr hp => ?_⟩
  · rcases hlook h1 i r hr with ⟨hi, h0⟩ | ⟨rfl, rfl⟩
    · rcases hlook h2 i ys hy with ⟨_, y0⟩ | ⟨hik, _⟩
      · obtain ⟨a1, a2⟩ := h4 i r ys h0 y0
        refine ⟨(a1.below hb).block fun p hp => hg.block _ ?_ ?_, a2⟩
        · have := a1.lt p hp; omega
        · intro e; exact h5 i r p h0 hp e.symm
      · omega
    · rcases hlook h2 i ys hy with ⟨hi, _⟩ | ⟨_, rfl⟩
      · omega
      · refine ⟨((hnew.mono hbM).below hb).block fun p hp => hg.block _ ?_ ?_, hm⟩
        · have := hnew.lt p hp; omega
        · intro e
          have h8 := hM _ e.symm
          have h9 := hnew.own p hp
          omega
  · intro e
    simp only [Value.ownBlock, Option.some.injEq] at e
    rcases hlook h1 i r hr with ⟨hi, h0⟩ | ⟨rfl, rfl⟩
    · rcases Nat.lt_or_ge i T.length with hiT | hiT
      · have hp2 := (h4 i r _ h0 (List.getElem?_eq_getElem hiT)).1.lt p hp
        have hv := h5 i r p h0 hp
        rcases hor with h9 | h9
        · rw [h9, e] at hv; exact hv rfl
        · omega
      · omega
    · have hp2 := hnew.lt p hp
      have hp3 := hnew.own p hp
      rcases hor with h9 | h9
      · have := hM _ h9; omega
      · omega
theorem SInv.read {base n : Nat} {v : Value} {rs : List RowD} {T : List (List ByteArray)} {w : World} (h : SInv base n v rs T w) : ∃ A c, v = .slice A n c ∧ n ≤ c ∧ StrSS w A n T := by
  obtain ⟨h1, h2, h3, h4, h5⟩ := h
  subst h1
  have h6 := h3
  obtain ⟨A, c, rfl, hO⟩ := ORow.of_owns (fun (y : RowD) => (rfl : (RowD.cells y).length = 1)) h3
  refine ⟨A, c, rfl, ?_, rs, hO.srow, h2, fun i r xs hr hx => ⟨(h4 i r xs hr hx).1.srow, by have := (h4 i r xs hr hx).2; unfold maxLen; omega⟩⟩
  obtain ⟨_, ⟨h7, h8⟩ | ⟨g, cap, cur, hv, _, _, hc, _⟩⟩ := h6
  · omega
  · cases hv; exact hc

theorem empty_owns (w : World) (E : TypeId) (N : Nat) (hN : N ≤ w.heap.size) : (w.alloc (.cells #[] E)).ownsRow N E 1 (.slice (some ⟨w.heap.size, 0, none⟩) 0 0) 0 [] := by
  have := World.ownsRow_lit (w := w) (e := E) (base := N) (size := 1) #[] 0 hN (by simp [maxLen]) (by simp)
  simpa using this
theorem SRow.blk8 {α : Type} {size : Nat} {cells : α → List Value} {w w' : World} {A : Option Addr} {n : Nat} {xs : List α} (h : SRow size cells w A n xs) (hs : w.heap.size ≤ w'.heap.size) (hb : ∀ p, A = some p → w'.heap[p.block]? = w.heap[p.block]?) : SRow size cells w' A n xs := by
  refine ⟨h.1, fun hn => ?_⟩
  obtain ⟨b, off, rfl, hlt, hc⟩ := h.2 hn
  refine ⟨b, off, rfl, by omega, fun i x hx j u hu => ?_⟩
  rw [← hc i x hx j u hu]
  have := hb _ rfl
  simp only at this
  simp only [World.cell?, this]
/-- A table whose rows lie in young blocks. -/
def YSS (r : Nat) (w : World) (A : Option Addr) (n : Nat) (T : List (List ByteArray)) : Prop :=
  (∀ p, A = some p → p.block ≠ r ∧ p.block < w.heap.size) ∧ ∃ rs : List RowD, SRow 1 RowD.cells w A n rs ∧ T.length = n ∧ ∀ (i : Nat) (q : RowD) (xs : List ByteArray), rs[i]? = some q → T[i]? = some xs → Strs w q.A q.n xs ∧ q.n ≤ 1000 ∧ ∀ p, q.A = some p → p.block ≠ r ∧ p.block < w.heap.size
theorem YSS.sss {r n : Nat} {w : World} {A : Option Addr} {T : List (List ByteArray)} (h : YSS r w A n T) : StrSS w A n T := by
  obtain ⟨_, rs, h1, h2, h3⟩ := h
  exact ⟨rs, h1, h2, fun i q xs hq hx => ⟨(h3 i q xs hq hx).1, by have := (h3 i q xs hq hx).2.1; unfold maxLen; omega⟩⟩
theorem YSS.drawn {r n : Nat} {w w' : World} {A : Option Addr} {T : List (List ByteArray)} (h : YSS r w A n T) (hd : Drawn r w.heap.size w w') : YSS r w' A n T := by
  obtain ⟨h0, rs, h1, h2, h3⟩ := h
  have hz := hd.size
  refine ⟨fun p hp => ⟨(h0 p hp).1, by have := (h0 p hp).2; omega⟩, rs, h1.blk8 hz (fun p hp => hd.block _ (h0 p hp).2 (h0 p hp).1), h2, fun i q xs hq hx => ?_⟩
  obtain ⟨a1, a2, a3⟩ := h3 i q xs hq hx
  exact ⟨a1.blk8 hz (fun p hp => hd.block _ (a3 p hp).2 (a3 p hp).1), a2, fun p hp => ⟨(a3 p hp).1, by have := (a3 p hp).2; omega⟩⟩
/-- Rows that are short, of short texts. -/
def shortT (T : List (List ByteArray)) : Prop := ∀ x ∈ T, shortL x ∧ x.length ≤ 13
theorem shortT.snoc {T : List (List ByteArray)} {x : List ByteArray} (h : shortT T) (hx : shortL x ∧ x.length ≤ 13) : shortT (T ++ [x]) := fun y hy => by
  rcases List.mem_append.1 hy with h1 | h1
  · exact h y h1
  · rw [List.mem_singleton] at h1
    subst h1
    exact hx
theorem SInv.yss {base k r : Nat} {v : Value} {rs : List RowD} {T : List (List ByteArray)} {w : World} (h : SInv base k v rs T w) (hr : r < base) : ∃ A c, v = .slice A k c ∧ YSS r w A k T := by
  obtain ⟨h1, h2, h3, h4, h5⟩ := h
  subst h1
  obtain ⟨A, c, rfl, hO⟩ := ORow.of_owns (fun (y : RowD) => (rfl : (RowD.cells y).length = 1)) h3
  exact ⟨A, c, rfl, fun p hp => ⟨by have := hO.own p hp; omega, hO.lt p hp⟩, rs, hO.srow, h2, fun i q xs hq hx => ⟨(h4 i q xs hq hx).1.srow, (h4 i q xs hq hx).2.1, fun p hp => ⟨by have := (h4 i q xs hq hx).1.own p hp; omega, (h4 i q xs hq hx).1.lt p hp⟩⟩⟩
/-- A text is stored into a row: what a row reads behind it. -/
theorem Strs.stored {w : World} {A : Option Addr} {n g o : Nat} {xs : List ByteArray} (h : Strs w A n xs) (z : ByteArray) (hz : z.size ≤ 100) (hxs : shortL xs) :
    ∃ ys, Strs (w.setCell ⟨g, o, none⟩ (.string z)) A n ys ∧ ys.length = xs.length ∧ shortL ys := by
  by_cases hn : 0 < n
  · obtain ⟨b, off, rfl, hlt, hc⟩ := h.2 hn
    refine ⟨(List.range n).map (fun i => if b = g ∧ off + i = o then z else xs.getD i ByteArray.empty), ⟨by simp, fun _ => ⟨b, off, rfl, by simpa [World.setCell] using hlt, fun i x hx j u hu => ?_⟩⟩, by simp [h.1], fun y hy => ?_⟩
    · match j, hu with
      | 0, hu =>
        simp only [strC, List.getElem?_cons_zero, Option.some.injEq] at hu
        subst hu
        have hi : i < n := by have := (List.getElem?_eq_some_iff.1 hx).1; simpa using this
        simp [hi] at hx
        have hxi : xs[i]? = some (xs[i]'(by rw [h.1]; exact hi)) := List.getElem?_eq_getElem _
        have hold := hc i _ hxi 0 _ rfl
        rw [Nat.mul_one, Nat.add_zero] at hold ⊢
        by_cases he : b = g ∧ off + i = o
        · obtain ⟨rfl, rfl⟩ := he
          rw [if_pos ⟨rfl, rfl⟩] at hx
          subst hx
          exact World.cell?_setCell_same _ _ _ hold
        · rw [if_neg he] at hx
          have hne : (⟨g, o, none⟩ : Addr) ≠ ⟨b, off + i, none⟩ := fun e => he ⟨by injection e with e1 e2 e3; exact e1.symm, by injection e with e1 e2 e3; exact e2.symm⟩
          rw [World.cell?_setCell_other _ _ _ _ hne, hold]
          rw [hxi] at hx
          simp at hx
          rw [hx]
      | j + 1, hu => simp [strC] at hu
    · obtain ⟨i, hi, rfl⟩ := List.mem_map.1 hy
      split
      · exact hz
      · have hi' : i < xs.length := by rw [h.1]; simpa using hi
        rw [List.getD, List.getElem?_eq_getElem hi']
        exact hxs _ (List.getElem_mem hi')
  · have h0 : n = 0 := by omega
    subst h0
    exact ⟨xs, ⟨h.1, fun h => absurd h (by omega)⟩, rfl, hxs⟩
/-- A list out of a table row by row. -/
theorem rows_choose {P : Nat → List ByteArray → Prop} : ∀ (n : Nat), (∀ i, i < n → ∃ ys, P i ys) → ∃ T : List (List ByteArray), T.length = n ∧ ∀ i ys, T[i]? = some ys → P i ys
  | 0, _ => ⟨[], rfl, fun i ys h => by simp at h⟩
  | n + 1, h => by
    obtain ⟨T, h1, h2⟩ := rows_choose n (fun i hi => h i (by omega))
    obtain ⟨y, hy⟩ := h n (by omega)
    refine ⟨T ++ [y], by simp [h1], fun i ys hi => ?_⟩
    by_cases hlt : i < T.length
    · rw [List.getElem?_append_left hlt] at hi
      exact h2 i ys hi
    · rw [List.getElem?_append_right (by omega)] at hi
      have h0 : i - T.length = 0 := by
        have := (List.getElem?_eq_some_iff.1 hi).1
        simp at this
        omega
      rw [h0] at hi
      simp at hi
      subst hi
      have : i = n := by omega
      subst this
      exact hy
theorem YSS.stored {r n g o : Nat} {w : World} {A : Option Addr} {T : List (List ByteArray)} (h : YSS r w A n T) (hA : ∀ p, A = some p → p.block ≠ g) (z : ByteArray) (hz : z.size ≤ 100) (hT : shortT T) :
    ∃ T', YSS r (w.setCell ⟨g, o, none⟩ (.string z)) A n T' ∧ shortT T' := by
  obtain ⟨h0, rs, h1, h2, h3⟩ := h
  have hsz : (w.setCell ⟨g, o, none⟩ (.string z)).heap.size = w.heap.size := by simp [World.setCell]
  obtain ⟨T', t1, t2⟩ := rows_choose (P := fun i ys => ∀ q, rs[i]? = some q → Strs (w.setCell ⟨g, o, none⟩ (.string z)) q.A q.n ys ∧ ys.length ≤ 13 ∧ shortL ys) n (fun i hi => by
    obtain ⟨q, hq⟩ : ∃ q, rs[i]? = some q := ⟨_, List.getElem?_eq_getElem (by rw [h1.1]; exact hi)⟩
    have hx : T[i]? = some (T[i]'(by omega)) := List.getElem?_eq_getElem _
    have hs := hT _ (List.mem_of_getElem? hx)
    obtain ⟨ys, a1, a2, a3⟩ := (h3 i q _ hq hx).1.stored (g := g) (o := o) z hz hs.1
    exact ⟨ys, fun q' hq' => by rw [hq] at hq'; cases hq'; exact ⟨a1, by rw [a2]; exact hs.2, a3⟩⟩)
  refine ⟨T', ⟨fun p hp => by rw [hsz]; exact h0 p hp, rs, h1.blk8 (by omega) (fun p hp => Below.heap_setCell _ _ _ _ (hA p hp)), t1, fun i q xs hq hx => ?_⟩, fun x hx => ?_⟩
  · have hi : i < T.length := by have := (List.getElem?_eq_some_iff.1 hq).1; rw [h1.1] at this; omega
    obtain ⟨_, b2, b3⟩ := h3 i q _ hq (List.getElem?_eq_getElem hi)
    exact ⟨(t2 i xs hx q hq).1, b2, fun p hp => by rw [hsz]; exact b3 p hp⟩
  · obtain ⟨i, hi, rfl⟩ := List.getElem_of_mem hx
    have hq : rs[i]? = some (rs[i]'(by rw [h1.1]; omega)) := List.getElem?_eq_getElem _
    exact ⟨(t2 i _ (List.getElem?_eq_getElem hi) _ hq).2.2, (t2 i _ (List.getElem?_eq_getElem hi) _ hq).2.1⟩
theorem YSS.at_ {r n k : Nat} {w : World} {A : Option Addr} {T : List (List ByteArray)} (h : YSS r w A n T) (hk : k < n) :
    ∃ (b off : Nat) (q : RowD) (xs : List ByteArray), A = some ⟨b, off, none⟩ ∧ b < w.heap.size ∧ b ≠ r ∧ T[k]? = some xs ∧ w.cell? ⟨b, off + k, none⟩ = some (.slice q.A q.n q.c) ∧ Strs w q.A q.n xs ∧ q.n ≤ 1000 := by
  obtain ⟨h0, rs, h1, h2, h3⟩ := h
  obtain ⟨b, off, q, rfl, hb, hx, hc⟩ := h1.at_ hk
  have h5 := hc 0 _ rfl
  rw [Nat.mul_one, Nat.add_zero] at h5
  have hl : k < T.length := by omega
  obtain ⟨a1, a2, a3⟩ := h3 k q _ hx (List.getElem?_eq_getElem hl)
  exact ⟨b, off, q, _, rfl, hb, (h0 _ rfl).1, List.getElem?_eq_getElem hl, h5, a1, a2⟩
/-- A table that is drawn. -/
def TbOut (r t : Nat) (w : World) (e : Ending) (w' : World) : Prop :=
  ∃ A n c T, e = .returned (.slice A n c) ∧ n ≤ 41 ∧ YSS r w' A n T ∧ shortT T ∧ SrcAt w' r (t + 4000) ∧ Drawn r w.heap.size w w'
set_option maxRecDepth 100000 in
set_option maxHeartbeats 4000000 in
theorem l08cell_any (r t : Nat) (w : World) (h : SrcAt w r t) (ht : t ≤ 1000000) : Calls Try.prog 59 #[.pointer (some ⟨r, 0, none⟩)] w (TxOut r t w) := by
  have hrl := h.lt
  have hb := below_a1 w (.cells #[.string ⟨#[]⟩, .string ⟨#[97]⟩, .string ⟨#[105, 110, 107]⟩, .string ⟨#[49, 50]⟩, .string ⟨#[114, 105, 98, 98, 111, 110]⟩, .string ⟨#[120, 45, 114, 97, 121]⟩, .string ⟨#[52, 46, 53, 48]⟩, .string ⟨#[116, 111, 116, 97, 108]⟩] 9)
  have hl : Strs (w.alloc (.cells #[.string ⟨#[]⟩, .string ⟨#[97]⟩, .string ⟨#[105, 110, 107]⟩, .string ⟨#[49, 50]⟩, .string ⟨#[114, 105, 98, 98, 111, 110]⟩, .string ⟨#[120, 45, 114, 97, 121]⟩, .string ⟨#[52, 46, 53, 48]⟩, .string ⟨#[116, 111, 116, 97, 108]⟩] 9)) (some ⟨w.heap.size, 0, none⟩) 8 [⟨#[]⟩, ⟨#[97]⟩, ⟨#[105, 110, 107]⟩, ⟨#[49, 50]⟩, ⟨#[114, 105, 98, 98, 111, 110]⟩, ⟨#[120, 45, 114, 97, 121]⟩, ⟨#[52, 46, 53, 48]⟩, ⟨#[116, 111, 116, 97, 108]⟩] := slit8 w 9 [⟨#[]⟩, ⟨#[97]⟩, ⟨#[105, 110, 107]⟩, ⟨#[49, 50]⟩, ⟨#[114, 105, 98, 98, 111, 110]⟩, ⟨#[120, 45, 114, 97, 121]⟩, ⟨#[52, 46, 53, 48]⟩, ⟨#[116, 111, 116, 97, 108]⟩] 8 rfl
  have hs := h.below hb
  have hd := Lib.hid ((Drawn.refl r w.heap.size w).below hb (Nat.le_refl _))
  have hz := hb.size
  have hne : ∀ p : Addr, (some ⟨w.heap.size, 0, none⟩ : Option Addr) = some p → p.block ≠ r := fun p hp => by cases hp; simp only; omega
  have hsl := Lib.hid (shortAll.out (show shortAll [⟨#[]⟩, ⟨#[97]⟩, ⟨#[105, 110, 107]⟩, ⟨#[49, 50]⟩, ⟨#[114, 105, 98, 98, 111, 110]⟩, ⟨#[120, 45, 114, 97, 121]⟩, ⟨#[52, 46, 53, 48]⟩, ⟨#[116, 111, 116, 97, 108]⟩] = true by decide))
  have hp := Lib.hid (text_any r t _ 8 8 _ _ hs (by omega) hl (by omega) (by omega) hne)
  clear hb hl hs hne h
  go_enter Try.func59, Try.ntmps59
  go_wp2_with fail
  refine hp.out.mono ?_
  rintro e w2 ⟨x, xm, rfl, hs2, hg2⟩
  have hd2 := Lib.hid (hd.out.pick hg2 (by omega))
  have hx := Lib.hid (hsl.out x xm)
  clear hp hg2 hd hsl xm
  go_wp2
  go_ret
  exact ⟨x, rfl, hx.out, hs2, hd2.out⟩
end Go.Proofs.Ytmgoidngecimbaa
