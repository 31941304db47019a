/- Slices of slices that the law compares, marks and looks at again. -/
import Derived.Test.YtmgoidngecimbaaSssT
import Derived.Deep.RegionHeld3
namespace Go.Proofs.Ytmgoidngecimbaa
open Go.RowKit Go.ChangeShapes Go.WideShapes Go.Deep
set_option linter.unusedVariables false
set_option linter.unusedSimpArgs false

theorem OStrSS.at_ {w : World} {lo hi n k : Nat} {A : Option Addr} {xss : List (List ByteArray)} (h : OStrSS w lo hi A n xss) (hk : k < n) :
    ∃ g B m c xs, A = some ⟨g, 0, none⟩ ∧ g < w.heap.size ∧ Hid (xss[k]? = some xs) ∧ w.cell? ⟨g, k, none⟩ = some (.slice B m c) ∧ OStrs w lo B m xs ∧ m ≤ 1048576 ∧ (∀ q, B = some q → lo ≤ q.block ∧ q.block < hi) ∧
      (∀ w' ys, w.grownBy w' (B.map (·.block)) → OStrs w' lo B m ys → OStrSS w' lo hi A n (xss.set k ys)) := by
  obtain ⟨rs, h1, h2, h3, h4, h5, h6⟩ := h
  obtain ⟨b, off, r, e, hb, hx, hc⟩ := h1.srow.at_ hk
  have hl : k < xss.length := by omega
  have hxs : xss[k]? = some xss[k] := List.getElem?_eq_getElem hl
  obtain ⟨a1, a2⟩ := h4 k r _ hx hxs
  have hoff : off = 0 := by
    rcases h1 with ⟨_, ⟨h0, _⟩ | ⟨g, _, _, h0, _⟩⟩
    · rw [h0] at e; cases e
    · rw [h0] at e; cases e; rfl
  subst hoff
  have h0 := hc 0 _ rfl
  rw [Nat.mul_one, Nat.add_zero, Nat.zero_add] at h0
  refine ⟨b, r.A, r.n, r.c, xss[k], e, hb, Lib.hid hxs, h0, a1, a2, fun q hq => ⟨a1.own q hq, (h5 k r q hx hq).1⟩, fun w' ys hg hO => ⟨rs, ?_, by simp [h2], h3, fun i s zs hs hz => ?_, h5, h6⟩⟩
  · refine h1.block fun p hp => hg.block _ (h1.lt p hp) ?_
    cases hrA : r.A with
    | none => simp
    | some q => have := (h5 k r q hx hrA).2 p hp; simp; omega
  · by_cases hik : k = i
    · subst hik
      rw [hx] at hs
      cases hs
      rw [List.getElem?_set_self hl] at hz
      cases hz
      exact ⟨hO, a2⟩
    · rw [List.getElem?_set_ne hik] at hz
      obtain ⟨b1, b2⟩ := h4 i s zs hs hz
      refine ⟨b1.block fun p hp => hg.block _ (b1.lt p hp) ?_, b2⟩
      cases hrA : r.A with
      | none => simp
      | some q => have := h6 k i r s q p hik hx hs hrA hp; simp; omega

/-- Younger blocks are written. -/
theorem OStrSS.only {w w' : World} {lo hi lo2 hi2 n : Nat} {A : Option Addr} {xss : List (List ByteArray)} (h : OStrSS w lo hi A n xss) (hg : OnlyIn lo2 hi2 w w') (hd : hi ≤ lo2) : OStrSS w' lo hi A n xss := by
  obtain ⟨rs, h1, h2, h3, h4, h5, h6⟩ := h
  exact ⟨rs, h1.only hg (fun q hq => Or.inl (Nat.lt_of_lt_of_le (h3 q hq) hd)), h2, h3, fun i r xs hr hx => ⟨(h4 i r xs hr hx).1.only hg (fun q hq => Or.inl (Nat.lt_of_lt_of_le (h5 i r q hr hq).1 hd)), (h4 i r xs hr hx).2⟩, h5, h6⟩
theorem marks_setS {M X : List (List ByteArray)} {i : Nat} {y : List ByteArray} (hl : M.length = X.length) (hy : M[i]? = some y) : (M.take i ++ X.drop i).set i y = M.take (i + 1) ++ X.drop (i + 1) := by
  have hi : i < M.length := (List.getElem?_eq_some_iff.1 hy).1
  have e : M[i] = y := (List.getElem?_eq_some_iff.1 hy).2
  rw [List.drop_eq_getElem_cons (by omega : i < X.length), List.take_succ_eq_append_getElem hi, e]
  have hlen : (M.take i).length = i := by rw [List.length_take]; omega
  rw [List.set_append_right _ _ (by omega), hlen, Nat.sub_self, List.set_cons_zero, List.append_assoc]
  rfl

end Go.Proofs.Ytmgoidngecimbaa
