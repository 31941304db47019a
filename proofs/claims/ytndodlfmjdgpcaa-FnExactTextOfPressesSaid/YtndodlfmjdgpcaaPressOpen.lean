/- An argument that is a list of presses. -/
import Derived.Test.YtndodlfmjdgpcaaOpen0
import Derived.Test.YtndodlfmjdgpcaaPress0
namespace Go.Proofs.Ytndodlfmjdgpcaa
open Go.RowKit Go.ChangeShapes Go.WideShapes Go.Deep
set_option linter.unusedVariables false
def PressD.good (p : PressD) : Prop := (Lit.int .i64 p.key).wf = true
set_option maxRecDepth 100000 in
theorem open_presses {H : Type} {enc : TypeId × Value → H} {w : World} {base : Nat} {spare : Nat → Bool} {held : Bool} {r : Reach} {b0 : Nat} {v : Value} {d : DataW H} {p : List MemPlace}
    (hv : Value.okWide Try.prog w r b0 78 v) (h : DataW.Trod enc Try.prog w base spare held 78 v d p) :
    ∃ A n c xs, v = .slice A n c ∧ (n ≤ maxLen ∧ Presses w A n xs ∧ ∀ x ∈ xs, x.good) := by
  obtain ⟨A, n, c, rfl⟩ := okWide_slice Try.underlying78 hv
  obtain ⟨fuel, hf⟩ := h
  obtain ⟨h1, h2, h3⟩ := open_cells Try.underlying78 Try.underlying146 (by kernel_rfl) (by kernel_rfl) (by simpa [Value.cells] using hf)
  obtain ⟨xs, hx, hg⟩ := open_list 2 PressD.cells PressD.good (fun _ => rfl) (by omega) (fun hn => by
    obtain ⟨a, ha, hi⟩ := h3 hn
    refine ⟨a, ha, fun i hlt => ?_⟩
    obtain ⟨_, v0, y0, c0, t0⟩ := hi i hlt 0 _ rfl
    obtain ⟨_, v1, y1, c1, t1⟩ := hi i hlt 1 _ rfl
    obtain ⟨n0, e0, _, w0⟩ := DataW.trod_int Try.underlying2 t0
    obtain ⟨n1, e1, _⟩ := DataW.trod_bool Try.underlying4 t1
    simp at e0 e1
    subst e0 e1
    refine ⟨⟨n0, n1⟩, w0, fun j u hu => ?_⟩
    match j, hu with
    | 0, hu => cases hu; exact c0
    | 1, hu => cases hu; exact c1
    | j + 2, hu => simp [PressD.cells] at hu)
  exact ⟨A, n, c, xs, rfl, Nat.le_trans h1 h2, hx, hg⟩
end Go.Proofs.Ytndodlfmjdgpcaa
