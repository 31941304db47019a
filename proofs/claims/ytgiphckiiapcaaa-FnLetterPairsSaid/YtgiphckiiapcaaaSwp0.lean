/- A copy of a slice of int64, and one with two elements exchanged: the model's functions and the program's. -/
import Derived.Test.YtgiphckiiapcaaaArrD
import Derived.Test.YtgiphckiiapcaaaIssO
import Derived.BigRegion
import Derived.Laws.OwnMore
namespace Go.Proofs.Ytgiphckiiapcaaa
open Go.RowKit
set_option linter.unusedVariables false
set_option linter.unusedSimpArgs false

theorem owns_i {w : World} {base n : Nat} {v : Value} {l : List Int} (hn : l.length = n) (h : w.ownsRow base 2 1 v n (l.flatMap intC)) : ∃ A c, v = .slice A n c ∧ n ≤ c ∧ OInts w base A n l := by
  subst hn
  obtain ⟨A, c, rfl, hO⟩ := ORow.of_owns (fun (y : Int) => (rfl : (intC y).length = 1)) h
  refine ⟨A, c, rfl, ?_, hO⟩
  obtain ⟨_, ⟨h1, h2⟩ | ⟨g, cap, cur, hv, _, _, hc, _⟩⟩ := h
  · omega
  · cases hv; exact hc
theorem flat_i : ∀ (xs : List Int) (j : Nat), (xs.flatMap intC)[j]? = (xs[j]?).map fun x => Value.int .i64 x
  | [], j => by simp
  | x :: r, 0 => by simp [intC]
  | x :: r, j + 1 => by
    have h := flat_i r j
    simp only [List.flatMap_cons, intC, List.cons_append, List.nil_append, List.getElem?_cons_succ]
    exact h
theorem flat_len (xs : List Int) : (xs.flatMap intC).length = xs.length * 1 := flat_length (fun (y : Int) => (rfl : (intC y).length = 1)) xs
def CopyOut (n : Nat) (xs : List Int) (w : World) (e : Ending) (w' : World) : Prop := ∃ g d, e = .returned (.slice (some ⟨g, 0, none⟩) n d) ∧ n ≤ d ∧ OInts w' w.heap.size (some ⟨g, 0, none⟩) n xs ∧ Below w.heap.size w w'
set_option maxHeartbeats 800000 in
theorem own_spec (A : Option Addr) (n c : Nat) (xs : List Int) (w : World) (h : Ints w A n xs) (hn0 : 0 < n) (hn : n ≤ 1048576) :
    Calls Try.prog 32 #[.slice A n c] w (CopyOut n xs w) := by
  obtain ⟨b, off, rfl, hb, hcells⟩ := h.2 hn0
  obtain ⟨i0, hi, hz0, hz1, hz2⟩ := info_parts Try.infoI64
  have hown : (w.alloc (.cells #[] 2)).ownsRow w.heap.size 2 1 (.slice (some ⟨w.heap.size, 0, none⟩) 0 0) 0 [] := by
    have := World.ownsRow_lit (w := w) (e := 2) (base := w.heap.size) (size := 1) #[] 0 (Nat.le_refl _) (by simp [maxLen]) (by simp)
    simpa using this
  replace hown := Lib.hid hown
  have hnews : Hid (∀ j u, (xs.flatMap intC)[j]? = some u → (w.alloc (.cells #[] 2)).cell? ((⟨b, off, none⟩ : Addr).add j) = some u) := Lib.hid fun j u hu => by
    rw [flat_i] at hu
    obtain ⟨x, hx, rfl⟩ := Option.map_eq_some_iff.1 hu
    have h1 := cell_on (hcells j x hx 0 _ rfl) (.cells #[] 2)
    unfold Addr.add
    split
    · rename_i hz; subst hz; simpa using h1
    · simpa using h1
  have hone : Hid (∀ u ∈ xs.flatMap intC, u.oneCell' = true) := Lib.hid fun u hu => by
    simp only [List.mem_flatMap, intC, List.mem_singleton] at hu
    obtain ⟨x, _, rfl⟩ := hu
    rfl
  have hlen : Hid ((xs.flatMap intC).length = n * 1) := Lib.hid (by rw [flat_len, h.1])
  have hl := Lib.hid h.1
  clear hcells h
  go_enter Try.func32, Try.ntmps32
  go_wp2_with (at_builtin; refine wpList_append_own _ rfl _ _ 24 rfl w.heap.size 2 i0 _ 1 8 Try.underlying24 hi hz0 hz1 hz2 rfl (by decide) _ _ _ rfl hown.out ⟨b, off, none⟩ n c (xs.flatMap intC) rfl hlen.out hnews.out hone.out ?c3 ?c4 ?c5 ?_)
  case c3 => unfold maxLen; omega
  case c4 => omega
  case c5 => simp
  intro v' w3 hown3 hgr3 hnil
  (try simp only [Nat.zero_add, List.nil_append] at hown3)
  obtain ⟨A', c', rfl, hc', hO⟩ := owns_i hl.out hown3
  obtain ⟨g, rfl⟩ : ∃ g, A' = some ⟨g, 0, none⟩ := by
    rcases hO with ⟨_, ⟨_, h0⟩ | ⟨g, _, _, h1, _⟩⟩
    · omega
    · exact ⟨g, h1⟩
  have hfin := Lib.hid hO
  have hbel : Hid (Below w.heap.size w w3) := Lib.hid (Below.grown (below_a1 _ _) hgr3 (by simp) (fun j hj => by simp [Value.ownBlock] at hj; omega))
  clear hown3 hgr3 hnil hO
  go_wp2
  go_ret
  exact ⟨_, _, rfl, hc', hfin.out, hbel.out⟩
/-- Two elements exchanged. -/
def swapL (ps : List Int) (i k : Nat) : List Int := (ps.set i (ps.getD k 0)).set k (ps.getD i 0)
theorem swapL_length (ps : List Int) (i k : Nat) : (swapL ps i k).length = ps.length := by simp [swapL]
theorem OInts.put {w : World} {base g n i : Nat} {ps : List Int} (x : Int) (h : OInts w base (some ⟨g, 0, none⟩) n ps) (hi : i < n) : OInts (w.setCell ⟨g, i, none⟩ (.int .i64 x)) base (some ⟨g, 0, none⟩) n (ps.set i x) := by
  rcases h with ⟨hl, ⟨h0, _⟩ | ⟨g', m, f, h1, hb, hr, hm, hf⟩⟩
  · cases h0
  · cases h1
    refine ⟨by simp [hl], .inr ⟨g, m, _, rfl, hb, hr.set i _, hm, fun j y hy q u hu => ?_⟩⟩
    have hj : j < n := by have := (List.getElem?_eq_some_iff.1 hy).1; simpa [hl] using this
    match q, hu with
    | 0, hu =>
      simp [intC] at hu
      subst hu
      refine ⟨by omega, ?_⟩
      by_cases hij : i = j
      · subst hij
        rw [List.getElem?_set_self (by omega)] at hy
        cases hy
        simp
      · rw [List.getElem?_set_ne hij] at hy
        have := (hf j y hy 0 _ rfl).2
        simp only [Nat.mul_one, Nat.add_zero] at this ⊢
        rw [if_neg (fun h => hij h.symm)]
        exact this
    | q + 1, hu => simp [intC] at hu
theorem OInts.swap {w : World} {base g n i k : Nat} {ps : List Int} {x y : Int} (h : OInts w base (some ⟨g, 0, none⟩) n ps) (hi : ps[i]? = some x) (hk : ps[k]? = some y) :
    OInts ((w.setCell ⟨g, i, none⟩ (.int .i64 y)).setCell ⟨g, k, none⟩ (.int .i64 x)) base (some ⟨g, 0, none⟩) n (swapL ps i k) := by
  have hi' : i < n := by have := (List.getElem?_eq_some_iff.1 hi).1; rw [h.1] at this; exact this
  have hk' : k < n := by have := (List.getElem?_eq_some_iff.1 hk).1; rw [h.1] at this; exact this
  rw [swapL, getD_of' hi, getD_of' hk]
  exact (h.put y hi').put x hk'
end Go.Proofs.Ytgiphckiiapcaaa
