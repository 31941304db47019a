/- Corrections: a rule that came in. -/
import Derived.Test.YtomnnhmhmehdjaaOverD
import Derived.Test.YtomnnhmhmehdjaaOpen0
namespace Go.Proofs.Ytomnnhmhmehdjaa
open Go.RowKit Go.ChangeShapes Go.WideShapes Go.Deep
set_option linter.unusedVariables false
set_option linter.unusedSimpArgs false

set_option maxRecDepth 100000 in
theorem open_over {H : Type} {enc : TypeId × Value → H} {w : World} {base : Nat} {spare : Nat → Bool} {held : Bool} {r : Reach} {b0 : Nat} {v : Value} {d : DataW H} {p : List MemPlace}
    (hv : Value.okWide Try.prog w r b0 56 v) (h : DataW.Trod enc Try.prog w base spare held 56 v d p) :
    ∃ x : OverD, v = .agg #[.string x.under, .string x.top, .string x.seen] ∧ x.good := by
  obtain ⟨cs, rfl, hsz, hi⟩ := open_agg_any Try.underlying56 (by kernel_rfl) (by kernel_rfl) hv h
  obtain ⟨v0, _, y0, c0, t0⟩ := hi 0 _ rfl
  obtain ⟨v1, _, y1, c1, t1⟩ := hi 1 _ rfl
  obtain ⟨v2, _, y2, c2, t2⟩ := hi 2 _ rfl
  obtain ⟨n0, e0, _, w0⟩ := DataW.trod_string Try.underlying9 t0
  obtain ⟨n1, e1, _, w1⟩ := DataW.trod_string Try.underlying9 t1
  obtain ⟨n2, e2, _, w2⟩ := DataW.trod_string Try.underlying9 t2
  simp at e0 e1 e2
  subst e0 e1 e2
  obtain ⟨l⟩ := cs
  match l, hsz with
  | [a0, a1, a2], _ =>
    simp at c0 c1 c2
    subst c0 c1 c2
    exact ⟨⟨n0, n1, n2⟩, rfl, w0, w1, w2⟩
end Go.Proofs.Ytomnnhmhmehdjaa
