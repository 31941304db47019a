/- Arguments that are slices of string, and slices of such: how they are opened. -/
import Derived.Test.YtomnnhmhmehdjaaLayD
import Derived.Deep.Slices
namespace Go.Proofs.Ytomnnhmhmehdjaa
open Go.RowKit Go.ChangeShapes Go.WideShapes Go.Deep
set_option linter.unusedVariables false
set_option linter.unusedSimpArgs false

set_option maxRecDepth 100000 in
theorem trod_strs {H : Type} {enc : TypeId × Value → H} {w : World} {base : Nat} {spare : Nat → Bool} {held : Bool} {fuel : Nat} {cs : List Value} {x : DataW H × List MemPlace}
    (h : DataW.trod enc Try.prog w base spare held fuel 40 cs = some x) : ∃ A n c xs, cs = [.slice A n c] ∧ (n ≤ maxLen ∧ Strs w A n xs ∧ ∀ x ∈ xs, strGood x) := by
  rcases open_slice Try.underlying40 h with ⟨hcs, _⟩ | ⟨a, len', cap', m', n', D, Pl, hcs, hb, hl, hm, hmm, hx, hi⟩
  · exact ⟨none, 0, 0, [], hcs, by unfold maxLen; omega, .nil_, fun x hx => by cases hx⟩
  · obtain ⟨xs, hx2, hg⟩ := open_list (w := w) 1 strC strGood (fun _ => rfl) (A := some a) (len := len') (by omega) (fun hn => by
      refine ⟨a, rfl, fun i hlt => ?_⟩
      have him' : i < m' := by
        subst hmm
        split <;> omega
      obtain ⟨cs', hc, ht'⟩ := hi i him'
      obtain ⟨s, e, _, hsz⟩ := DataW.trod_string Try.underlying9 ht'
      subst e
      refine ⟨s, hsz, fun j u hu => ?_⟩
      have hC : Try.prog.cellsOf 9 = 1 := by kernel_rfl
      rw [hC] at hc
      obtain ⟨_, hcl, hat⟩ := World.cells?_some hc
      match j, hu with
      | 0, hu =>
        cases hu
        have h9 := hat 0 (by simp)
        rw [Go.Deep.add_add] at h9
        simpa using h9
      | j + 1, hu => simp [strC] at hu)
    exact ⟨some a, len', cap', xs, hcs, Nat.le_trans hl hm, hx2, hg⟩
set_option maxRecDepth 100000 in
theorem open_strs {H : Type} {enc : TypeId × Value → H} {w : World} {base : Nat} {spare : Nat → Bool} {held : Bool} {r : Reach} {b0 : Nat} {v : Value} {d : DataW H} {p : List MemPlace}
    (hv : Value.okWide Try.prog w r b0 40 v) (h : DataW.Trod enc Try.prog w base spare held 40 v d p) :
    ∃ A n c xs, v = .slice A n c ∧ (n ≤ maxLen ∧ Strs w A n xs ∧ ∀ x ∈ xs, strGood x) := by
  obtain ⟨A, n, c, rfl⟩ := okWide_slice Try.underlying40 hv
  obtain ⟨fuel, hf⟩ := h
  obtain ⟨A', n', c', xs, hcs, hr⟩ := trod_strs (by simpa [Value.cells] using hf)
  simp at hcs
  obtain ⟨rfl, rfl, rfl⟩ := hcs
  exact ⟨_, _, _, xs, rfl, hr⟩
end Go.Proofs.Ytomnnhmhmehdjaa
