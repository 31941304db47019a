/- Slices of bytes as arguments. -/
import Derived.Test.YtlnhjknpeafgoaaSrc
import Derived.Test.YtlnhjknpeafgoaaOpen0
namespace Go.Proofs.Ytlnhjknpeafgoaa
open Go.RowKit Go.ChangeShapes Go.WideShapes Go.Deep
set_option linter.unusedVariables false
set_option linter.unusedSimpArgs false
set_option maxRecDepth 100000 in
theorem open_bytes {H : Type} {enc : TypeId × Value → H} {w : World} {base : Nat} {spare : Nat → Bool} {held : Bool} {r : Reach} {b0 : Nat} {v : Value} {d : DataW H} {p : List MemPlace}
    (hv : Value.okWide Try.prog w r b0 22 v) (h : DataW.Trod enc Try.prog w base spare held 22 v d p) :
    ∃ A n c xs, v = .slice A n c ∧ (n ≤ maxLen ∧ Bytes w A n xs ∧ ∀ x ∈ xs, byteGood x) := by
  obtain ⟨A, n, c, rfl⟩ := okWide_slice Try.underlying22 hv
  obtain ⟨fuel, hf⟩ := h
  rcases open_ints Try.underlying22 Try.underlying5 (by kernel_rfl) (by simpa [Value.cells] using hf) with ⟨h0, _⟩ | ⟨a, len, cap, zs, hcs, _, hl, hm, hzl, _, hc, hwf⟩
  · simp at h0
    obtain ⟨rfl, rfl, rfl⟩ := h0
    exact ⟨_, _, _, [], rfl, by unfold maxLen; omega, .nil_, fun x hx => by cases hx⟩
  · simp at hcs
    obtain ⟨rfl, rfl, rfl⟩ := hcs
    have hz : n ≤ zs.length := by rw [hzl]; split <;> omega
    obtain ⟨xs, hx, hg⟩ := open_list (A := some a) (len := n) 1 byteC byteGood (fun _ => rfl) (by omega) (fun hn => by
      refine ⟨a, rfl, fun i hlt => ⟨zs.getD i 0, ?_, fun j u hu => ?_⟩⟩
      · have hi : i < zs.length := by omega
        have h1 : zs.getD i 0 ∈ zs := by simp [List.getD, List.getElem?_eq_getElem hi]
        have h2 := hwf _ h1
        simp [Lit.wf, IntKind.min, IntKind.max, IntKind.signed, IntKind.bits] at h2
        exact h2
      · match j, hu with
        | 0, hu => cases hu; simpa using hc i (by omega)
        | j + 1, hu => simp [byteC] at hu)
    exact ⟨some a, n, c, xs, rfl, Nat.le_trans hl hm, hx, hg⟩
end Go.Proofs.Ytlnhjknpeafgoaa
