/- What a function leaves that draws: blocks of its own, and a source that has been read. -/
import Derived.Test.YtlnhjknpeafgoaaSrc
import Derived.Laws.OwnMore
import Derived.Test.YtlnhjknpeafgoaaSrcT
namespace Go.Proofs.Ytlnhjknpeafgoaa
open Go.RowKit
set_option linter.unusedVariables false
set_option linter.unusedSimpArgs false

/-- Only r and what is younger has been written. -/
theorem Kept2.grown1 {r N : Nat} {w w' : World} (h : w.grownBy w' (some r)) : w.grownBy w' (some r) := h
/-- Blocks below N stand, but for r. -/
structure Drawn (r N : Nat) (w w' : World) : Prop where
  os : w'.os = w.os
  tape : w'.tape = w.tape
  output : w'.output = w.output
  size : w.heap.size ≤ w'.heap.size
  block : ∀ k, k < N → k ≠ r → w'.heap[k]? = w.heap[k]?
theorem Drawn.refl (r N : Nat) (w : World) : Drawn r N w w := ⟨rfl, rfl, rfl, Nat.le_refl _, fun _ _ _ => rfl⟩
theorem Drawn.trans {r N : Nat} {x y z : World} (h : Drawn r N x y) (g : Drawn r N y z) : Drawn r N x z := ⟨g.os.trans h.os, g.tape.trans h.tape, g.output.trans h.output, Nat.le_trans h.size g.size, fun k h1 h2 => (g.block k h1 h2).trans (h.block k h1 h2)⟩
theorem Drawn.pick {r N : Nat} {x y z : World} (h : Drawn r N x y) (hg : y.grownBy z (some r)) (hN : N ≤ y.heap.size) : Drawn r N x z := h.trans ⟨hg.os, hg.tape, hg.output, hg.size, fun k h1 h2 => hg.block k (by omega) (fun e => by cases e; exact h2 rfl)⟩
theorem Drawn.young {r N q : Nat} {x y z : World} (h : Drawn r N x y) (hg : y.grownBy z (some q)) (hN : N ≤ y.heap.size) (hq : N ≤ q) : Drawn r N x z := h.trans ⟨hg.os, hg.tape, hg.output, hg.size, fun k h1 h2 => hg.block k (by omega) (fun e => by cases e; omega)⟩
theorem Drawn.below {r N : Nat} {x y z : World} (h : Drawn r N x y) (hb : Below y.heap.size y z) (hN : N ≤ y.heap.size) : Drawn r N x z := h.trans ⟨hb.os, hb.tape, hb.output, hb.size, fun k h1 h2 => hb.block k (by omega)⟩
/-- A source of the call's own: nothing older has been written. -/
theorem Drawn.own {r N : Nat} {x y : World} (h : Drawn r N x y) (hr : N ≤ r) : Below N x y := ⟨h.os, h.tape, h.output, h.size, fun k hk => h.block k hk (by omega)⟩

theorem owns_past {w w' : World} {base k : Nat} {e : TypeId} {size n : Nat} {v : Value} {xs : List Value} (h : w.ownsRow base e size v n xs) (hg : w.grownBy w' (some k)) (hk : k < base) : w'.ownsRow base e size v n xs :=
  h.kept hg (by
    cases hob : v.ownBlock with
    | none => exact .inl rfl
    | some b => exact .inr (fun e => by cases e; have := (h.lt _ hob).1; omega))
theorem owns_still {w w' : World} {base : Nat} {e : TypeId} {size n : Nat} {v : Value} {xs : List Value} (h : w.ownsRow base e size v n xs) (hb : Below w.heap.size w w') : w'.ownsRow base e size v n xs :=
  h.kept (grown_below hb none) (by cases v.ownBlock <;> simp)
theorem SrcAt.grownO {w w' : World} {r t : Nat} {row : Option Nat} (h : SrcAt w r t) (hg : w.grownBy w' row) (hq : ∀ q, row = some q → r < q) : SrcAt w' r t := by
  cases row with
  | none => exact h.grown (q := r + 1) ⟨hg.os, hg.tape, hg.output, hg.size, fun k hk _ => hg.block k hk (by simp)⟩ (by omega)
  | some q => exact h.grown hg (hq q rfl)
theorem Drawn.youngO {r N : Nat} {x y z : World} {row : Option Nat} (h : Drawn r N x y) (hg : y.grownBy z row) (hN : N ≤ y.heap.size) (hq : ∀ q, row = some q → N ≤ q) : Drawn r N x z := by
  cases row with
  | none => exact h.young (q := N) ⟨hg.os, hg.tape, hg.output, hg.size, fun k hk _ => hg.block k hk (by simp)⟩ hN (Nat.le_refl _)
  | some q => exact h.young hg hN (hq q rfl)
theorem owns_cap {w : World} {base : Nat} {e : TypeId} {size n : Nat} {A : Option Addr} {c : Nat} {xs : List Value} (h : w.ownsRow base e size (.slice A n c) n xs) : n ≤ c := by
  rcases h.2 with ⟨hv, h0⟩ | ⟨g, cap, cur, hv, hb, hg, hcap, _⟩
  · omega
  · cases hv
    exact hcap
theorem grown_of_drew {v w : World} {row : Option Nat} (h : v.drew.grownBy w row) : v.grownBy w row := ⟨h.os, h.tape, h.output, h.size, h.block⟩
theorem below_of_drew {n : Nat} {v w : World} (h : Below n v.drew w) : Below n v w := ⟨h.os, h.tape, h.output, h.size, h.block⟩
theorem drawn_of_drew {r N : Nat} {v w : World} (h : Drawn r N v.drew w) : Drawn r N v w := ⟨h.os, h.tape, h.output, h.size, h.block⟩
theorem act_base {w : World} {base n size : Nat} {E : TypeId} {v : Value} {vs : List Value} (h : w.ownsRow base E size v n vs) (q : Nat) (hq : v.ownBlock = some q) : base ≤ q := by
  obtain ⟨_, ⟨rfl, _⟩ | ⟨g', cap, cur, rfl, hb, _⟩⟩ := h
  · cases hq
  · cases hq; exact hb
/-- A younger block is written. -/
theorem owns_young {w w7 w' : World} {base n m size q : Nat} {E : TypeId} {v : Value} {vs us : List Value} (h : w.ownsRow base E size v n vs) (h7 : w7.ownsRow base E size v m us) (hg : w.grownBy w' (some q)) (hq : w7.heap.size ≤ q) : w'.ownsRow base E size v n vs :=
  h.kept hg (by
    cases hob : v.ownBlock with
    | none => exact .inl rfl
    | some b => exact .inr (fun e => by cases e; have := (h7.lt _ hob).2; omega))
theorem owns_slice {w : World} {base n size : Nat} {E : TypeId} {v : Value} {vs : List Value} (h : w.ownsRow base E size v n vs) : ∃ A c, v = .slice A n c := by
  obtain ⟨_, ⟨rfl, hn⟩ | ⟨g, cap, cur, rfl, _⟩⟩ := h
  · exact ⟨none, 0, by rw [hn]⟩
  · exact ⟨_, _, rfl⟩
theorem SRow.youngR {α : Type} {size : Nat} {cells : α → List Value} {w w' : World} {A : Option Addr} {n : Nat} {xs : List α} {row : Option Nat} (h : SRow size cells w A n xs) (hg : w.grownBy w' row) (hne : ∀ p, A = some p → row ≠ some p.block) : SRow size cells w' A n xs := by
  cases row with
  | none => exact SRow.kept (B := none) h hg (fun p q _ e => by cases e)
  | some q => exact SRow.kept (B := some ⟨q, 0, none⟩) h hg (fun p q' e1 e2 => by cases e2; intro e; exact hne p e1 (by rw [e]))
/-- A row of one's own that is not empty: where it lies, and what a store into it leaves. -/
theorem owns_at {w : World} {base n size : Nat} {E : TypeId} {v : Value} {vs : List Value} (h : w.ownsRow base E size v n vs) (hn : 0 < n) :
    ∃ g cap, v = .slice (some ⟨g, 0, none⟩) n cap ∧ base ≤ g ∧ g < w.heap.size ∧ n ≤ cap ∧ (∀ i u, vs[i]? = some u → w.cell? ⟨g, i, none⟩ = some u) ∧ (∀ i, w.frozen? ⟨g, i, none⟩ = false) ∧
      ∀ i u, w.grownBy (w.setCell ⟨g, i, none⟩ u) (some g) ∧ (i < vs.length → (w.setCell ⟨g, i, none⟩ u).ownsRow base E size v n (vs.set i u)) := by
  obtain ⟨hlen, ⟨rfl, h0⟩ | ⟨g, cap, cur, rfl, hb, hg, hc, hm, hs, ht⟩⟩ := h
  · omega
  · refine ⟨g, cap, rfl, hb, (Array.getElem?_eq_some_iff.1 hg).1, hc, fun i u hi => ?_, fun i => by simp [World.frozen?, hg], fun i u => ⟨grown_set, fun hi => ?_⟩⟩
    · have hil : i < vs.length := (List.getElem?_eq_some_iff.1 hi).1
      rw [← ht, List.getElem?_take] at hi
      rw [if_pos (by omega)] at hi
      simp [World.cell?, hg]
      simpa using hi
    · refine ⟨by simpa using hlen, .inr ⟨g, cap, cur.setIfInBounds i u, by simp, hb, ?_, by simpa using hc, hm, by simpa using hs, ?_⟩⟩
      · simp [World.setCell, Array.getElem?_modify, hg]
      · rw [Array.toList_setIfInBounds, List.take_set, ht]
/-- A slice of numbers that has just been written out. -/
theorem ints_lit (w : World) (xs : List Int) (T : TypeId) (n : Nat) (hn : xs.length = n) : Ints (w.alloc (.cells (xs.map (fun x => Value.int .i64 x)).toArray T)) (some ⟨w.heap.size, 0, none⟩) n xs := by
  refine ⟨hn, fun h => ⟨w.heap.size, 0, rfl, by simp, fun i x hx j u hu => ?_⟩⟩
  match j, hu with
  | 0, hu =>
    cases hu
    rw [World.cell?_alloc_at _ _ _ _ rfl]
    simp [hx]
  | j + 1, hu => simp [intC] at hu
theorem strs_lit (w : World) (xs : List ByteArray) (T : TypeId) (n : Nat) (hn : xs.length = n) : Strs (w.alloc (.cells (xs.map Value.string).toArray T)) (some ⟨w.heap.size, 0, none⟩) n xs := by
  refine ⟨hn, fun h => ⟨w.heap.size, 0, rfl, by simp, fun i x hx j u hu => ?_⟩⟩
  match j, hu with
  | 0, hu =>
    cases hu
    rw [World.cell?_alloc_at _ _ _ _ rfl]
    simp [hx]
  | j + 1, hu => simp [strC] at hu
end Go.Proofs.Ytlnhjknpeafgoaa
