/- Moves of the carriage: the model's least numbers of moves. -/
import Derived.Test.YtijelimpkcnbjaaTm1
import Derived.Test.YtijelimpkcnbjaaOIn
namespace Go.Proofs.Ytijelimpkcnbjaa
open Go.RowKit Go.ChangeShapes Go.WideShapes Go.Deep
set_option linter.unusedVariables false
set_option linter.unusedSimpArgs false

/-- What a slice of int64 holds in a world. -/
def readJ (w : World) : Value → List Int
  | .slice (some a) n _ => (List.range n).map fun i => match w.cell? ⟨a.block, a.off + i, none⟩ with | some (.int _ x) => x | _ => 0
  | _ => []
theorem readJ_of {w : World} {g n c : Nat} {xs : List Int} (h : Ints w (some ⟨g, 0, none⟩) n xs) : readJ w (.slice (some ⟨g, 0, none⟩) n c) = xs := by
  refine List.ext_getElem? fun i => ?_
  by_cases hi : i < n
  · obtain ⟨_, _, x, hA, _, hx, hc⟩ := int_at h hi
    cases hA
    rw [hx.out]
    rw [Nat.zero_add] at hc
    simp [readJ, hi, hc]
  · rw [List.getElem?_eq_none (by simp [readJ]; omega), List.getElem?_eq_none (by rw [h.1]; omega)]
theorem sum_set : ∀ (l : List Int) (i : Nat) (x : Int), i < l.length → (l.set i x).sum = l.sum - l.getD i 0 + x
  | [], i, x, h => absurd h (by simp)
  | a :: l, 0, x, h => by simp; omega
  | a :: l, i + 1, x, h => by
    have := sum_set l i x (by simpa using h)
    simp only [List.set_cons_succ, List.sum_cons, List.getD_cons_succ]
    omega
theorem sum_pos : ∀ (l : List Int), (∀ x ∈ l, 0 ≤ x) → 0 ≤ l.sum
  | [], _ => by simp
  | a :: l, h => by
    have := sum_pos l (fun x hx => h x (by simp [hx]))
    have := h a (by simp)
    simp only [List.sum_cons]
    omega
/-- What holds of distances that are not the least ones yet. -/
structure FarI (ps : List Int) (to : Nat) (L : List Int) : Prop where
  len : L.length = 31
  zero : L.getD to 0 = 0
  rng : ∀ a : Nat, a ≤ 30 → 0 ≤ L.getD a 0 ∧ L.getD a 0 ≤ 31
  back : ∀ a : Nat, a ≤ 30 → a ≠ to → L.getD a 0 < 31 → ∃ k, k < 3 ∧ ∃ n : Nat, nextP ps (a : Int) (mvB k) = (n : Int) ∧ L.getD n 0 + 1 ≤ L.getD a 0
/-- A pass so far. -/
structure PassI (ps : List Int) (to : Nat) (L0 : List Int) (at' kk : Nat) (more : Bool) (L : List Int) : Prop where
  far : FarI ps to L
  le : L.sum ≤ L0.sum
  lt : more = true → L.sum < L0.sum
  fix : more = false → ∀ a k : Nat, k < 3 → (a < at' ∨ (a = at' ∧ k < kk)) → ∀ n : Nat, nextP ps (a : Int) (mvB k) = (n : Int) → L.getD a 0 ≤ L.getD n 0 + 1
theorem FarI.sum0 {ps : List Int} {to : Nat} {L : List Int} (h : FarI ps to L) : 0 ≤ L.sum := sum_pos L fun x hx => by
  obtain ⟨i, hi, rfl⟩ := List.getElem_of_mem hx
  have := (h.rng i (by have := h.len; omega)).1
  rwa [List.getD, List.getElem?_eq_getElem hi, Option.getD_some] at this
theorem FarI.start {ps : List Int} {to : Nat} (hto : to ≤ 30) : FarI ps to ((List.replicate 31 (31 : Int)).set to 0) := by
  have hg : ∀ a : Nat, a ≤ 30 → a ≠ to → ((List.replicate 31 (31 : Int)).set to 0).getD a 0 = 31 := fun a ha hne => by
    rw [set_otherI (fun e => hne e.symm), List.getD, List.getElem?_replicate_of_lt (by omega)]; rfl
  have hz : ((List.replicate 31 (31 : Int)).set to 0).getD to 0 = 0 := set_sameI (by simp; omega)
  refine ⟨by simp, hz, fun a ha => ?_, fun a ha hne hlt => ?_⟩
  · by_cases he : a = to
    · rw [he, hz]; omega
    · rw [hg a ha he]; omega
  · rw [hg a ha hne] at hlt; omega
theorem PassI.start {ps : List Int} {to : Nat} {L : List Int} (h : FarI ps to L) : PassI ps to L 0 0 false L :=
  ⟨h, Int.le_refl _, (fun e => by cases e), fun _ a k _ hk n _ => absurd hk (by omega)⟩
theorem PassI.row {ps : List Int} {to : Nat} {L0 L : List Int} {a : Nat} {more : Bool} (h : PassI ps to L0 a 3 more L) : PassI ps to L0 (a + 1) 0 more L :=
  ⟨h.far, h.le, h.lt, fun e b k hk hb n hn => h.fix e b k hk (by omega) n hn⟩
theorem PassI.skip {ps : List Int} {to : Nat} {L0 L : List Int} {a k : Nat} {more : Bool} (h : PassI ps to L0 a k more L) (hs : ∀ n : Nat, nextP ps (a : Int) (mvB k) = (n : Int) → L.getD a 0 ≤ L.getD n 0 + 1) : PassI ps to L0 a (k + 1) more L :=
  ⟨h.far, h.le, h.lt, fun e b j hj hb n hn => by
    by_cases hbk : b = a ∧ j = k
    · obtain ⟨rfl, rfl⟩ := hbk; exact hs n hn
    · exact h.fix e b j hj (by omega) n hn⟩
theorem PassI.relax {ps : List Int} {to : Nat} {L0 L : List Int} {a k n : Nat} {more : Bool} (h : PassI ps to L0 a k more L) (ha : a ≤ 30) (hk : k < 3) (hn : nextP ps (a : Int) (mvB k) = (n : Int)) (hlt : L.getD n 0 + 1 < L.getD a 0) : PassI ps to L0 a (k + 1) true (L.set a (L.getD n 0 + 1)) := by
  have hn30 := next_le hn
  have hrn := h.far.rng n hn30
  have hra := h.far.rng a ha
  have hat : a ≠ to := by intro e; rw [e, h.far.zero] at hlt; omega
  have hna : n ≠ a := by intro e; rw [e] at hlt; omega
  have hlen := h.far.len
  have hsa : (L.set a (L.getD n 0 + 1)).getD a 0 = L.getD n 0 + 1 := set_sameI (by omega)
  have hle : ∀ b : Nat, (L.set a (L.getD n 0 + 1)).getD b 0 ≤ L.getD b 0 := fun b => by
    by_cases hb : b = a
    · rw [hb, hsa]; omega
    · rw [set_otherI (fun e => hb e.symm)]; exact Int.le_refl _
  have hsum := sum_set L a (L.getD n 0 + 1) (by omega)
  have h1 := h.le
  refine ⟨⟨by rw [List.length_set]; exact hlen, by rw [set_otherI hat]; exact h.far.zero, fun b hb => ?_, fun b hb hne hl => ?_⟩, by omega, fun _ => by omega, fun e => by cases e⟩
  · by_cases hba : b = a
    · rw [hba, hsa]; omega
    · rw [set_otherI (fun e => hba e.symm)]; exact h.far.rng b hb
  · by_cases hba : b = a
    · subst hba
      exact ⟨k, hk, n, hn, by rw [hsa, set_otherI (fun e => hna e.symm)]; omega⟩
    · rw [set_otherI (fun e => hba e.symm)] at hl ⊢
      obtain ⟨j, hj, m, hm, hd⟩ := h.far.back b hb hne hl
      exact ⟨j, hj, m, hm, by have := hle m; omega⟩
theorem PassI.done {ps : List Int} {to : Nat} {L0 L : List Int} (hto : to ≤ 30) (h : PassI ps to L0 31 0 false L) : IsFar ps to (fun a => L.getD a 0) := by
  have hs : ∀ a : Nat, a ≤ 30 → ∀ k, k < 3 → ∀ n : Nat, nextP ps (a : Int) (mvB k) = (n : Int) → L.getD a 0 ≤ L.getD n 0 + 1 := fun a ha k hk n hn => h.fix rfl a k hk (Or.inl (by omega)) n hn
  refine ⟨h.far.zero, hs, fun a ha hne => ?_, fun a ha => (h.far.rng a ha).1⟩
  have h30 := far_30 (D := fun a => L.getD a 0) hto h.far.zero hs ha
  obtain ⟨k, hk, n, hn, hd⟩ := h.far.back a ha hne (by have h31 : L.getD a 0 ≤ 30 := h30; omega)
  exact ⟨k, hk, n, hn, Int.le_antisymm (hs a ha k hk n hn) hd⟩
def boolN : Value → Nat
  | .bool true => 1
  | _ => 0
end Go.Proofs.Ytijelimpkcnbjaa
