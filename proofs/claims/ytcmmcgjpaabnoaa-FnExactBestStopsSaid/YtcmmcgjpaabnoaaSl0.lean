/- Lists of stops: their order, and how a row of them lies in memory. -/
import Derived.Test.YtcmmcgjpaabnoaaTm10
import Derived.Test.YtcmmcgjpaabnoaaCat8
namespace Go.Proofs.Ytcmmcgjpaabnoaa
open Go.RowKit Go.ChangeShapes Go.WideShapes Go.Deep
set_option linter.unusedVariables false
set_option linter.unusedSimpArgs false

def nextS (a : Nat) : List Int → Nat
  | [] => a
  | x :: L => nextS (x.toNat + 1) L
theorem nextS_snoc (L : List Int) (c : Int) : ∀ a, nextS a (L ++ [c]) = c.toNat + 1 := by
  induction L with
  | nil => intro a; rfl
  | cons x L ih => intro a; exact ih _
def extS (a : Nat) (L : List Int) : List (List Int) := (List.range' (nextS a L) (31 - nextS a L)).map fun (c : Nat) => L ++ [(c : Int)]
theorem extS_cons (a c : Nat) (L : List Int) : extS a ((c : Int) :: L) = (extS (c + 1) L).map (fun t => (c : Int) :: t) := by
  rw [extS, extS, nextS, Int.toNat_natCast, List.map_map]
  rfl
theorem allL_snoc : ∀ m a, allL (m + 1) a = (allL m a).flatMap (extS a)
  | 0, a => by
    rw [allL]
    simp only [allL, List.flatMap_cons, List.flatMap_nil, List.append_nil, List.map_cons, List.map_nil]
    rw [extS, nextS, List.map_eq_flatMap]
    rfl
  | m + 1, a => by
    rw [allL]
    have ih := fun c : Nat => allL_snoc m (c + 1)
    simp only [ih]
    rw [allL, List.flatMap_assoc]
    refine congrArg (fun f => List.flatMap f (List.range' a (31 - a))) (funext fun c => ?_)
    rw [List.map_flatMap, List.flatMap_map]
    exact congrArg (fun f => List.flatMap f (allL m (c + 1))) (funext fun L => (extS_cons a c L).symm)
theorem allL_in : ∀ m a, a ≤ 31 → ∀ L ∈ allL m a, L.length = m ∧ nextS a L ≤ 31 ∧ a ≤ nextS a L ∧ ∀ x ∈ L, (a : Int) ≤ x ∧ x ≤ 30
  | 0, a, ha, L, h => by
    rw [allL, List.mem_singleton] at h
    subst h
    exact ⟨rfl, ha, Nat.le_refl _, fun x hx => by cases hx⟩
  | m + 1, a, ha, L, h => by
    rw [allL, List.mem_flatMap] at h
    obtain ⟨c, hc, h⟩ := h
    obtain ⟨t, ht, rfl⟩ := List.mem_map.1 h
    rw [List.mem_range'_1] at hc
    obtain ⟨h1, h2, h3, h4⟩ := allL_in m (c + 1) (by omega) t ht
    refine ⟨by rw [List.length_cons, h1], by rw [nextS, Int.toNat_natCast]; exact h2, by rw [nextS, Int.toNat_natCast]; omega, fun x hx => ?_⟩
    rcases List.mem_cons.1 hx with rfl | hx
    · omega
    · have := h4 x hx
      omega
theorem extS_len (L : List Int) : (extS 1 L).length ≤ 31 := by
  rw [extS, List.length_map, List.length_range']
  omega
theorem ext_flat_len : ∀ X : List (List Int), (X.flatMap (extS 1)).length ≤ 31 * X.length
  | [] => by simp
  | x :: X => by
    have h := ext_flat_len X
    have h1 := extS_len x
    rw [List.flatMap_cons, List.length_append, List.length_cons]
    omega
theorem allL_few {m : Nat} (h : m ≤ 2) : (allL m 1).length ≤ 961 := by
  match m, h with
  | 0, _ => simp [allL]
  | 1, _ => rw [allL_snoc]; have := ext_flat_len (allL 0 1); simp [allL] at this ⊢; omega
  | 2, _ =>
    have h1 := ext_flat_len (allL 0 1)
    have h2 := ext_flat_len (allL 1 1)
    have e1 : (allL 1 1).length ≤ 31 * (allL 0 1).length := by rw [allL_snoc 0 1]; exact h1
    have e2 : (allL 2 1).length ≤ 31 * (allL 1 1).length := by rw [allL_snoc 1 1]; exact h2
    have h0 : (allL 0 1).length = 1 := rfl
    omega
/-- The rows lie as they should. -/
def RowsOk (w : World) (base : Nat) (rs : List RowD) (xss : List (List Int)) : Prop :=
  rs.length = xss.length ∧ ∀ (i : Nat) (r : RowD) (xs : List Int), rs[i]? = some r → xss[i]? = some xs → OInts w base r.A r.n xs
theorem RowsOk.to {w w' : World} {base base' : Nat} {rs : List RowD} {xss : List (List Int)} (h : RowsOk w base rs xss) (hk : ∀ (A : Option Addr) (n : Nat) (xs : List Int), OInts w base A n xs → OInts w' base' A n xs) : RowsOk w' base' rs xss :=
  ⟨h.1, fun i r xs hr hx => hk _ _ _ (h.2 i r xs hr hx)⟩
theorem RowsOk.below {w w' : World} {base : Nat} {rs : List RowD} {xss : List (List Int)} (h : RowsOk w base rs xss) (hb : Below w.heap.size w w') : RowsOk w' base rs xss := h.to fun _ _ _ k => ORow.below k hb
theorem RowsOk.nil (w : World) (base : Nat) : RowsOk w base [] [] := ⟨rfl, fun i r xs hr _ => by simp at hr⟩
theorem RowsOk.snoc {w : World} {base : Nat} {rs : List RowD} {xss : List (List Int)} (h : RowsOk w base rs xss) {r : RowD} {xs : List Int} (hr : OInts w base r.A r.n xs) : RowsOk w base (rs ++ [r]) (xss ++ [xs]) := by
  refine ⟨by simp [h.1], fun i r' xs' h1 h2 => ?_⟩
  by_cases hi : i < rs.length
  · rw [List.getElem?_append_left hi] at h1
    rw [List.getElem?_append_left (by rw [← h.1]; exact hi)] at h2
    exact h.2 i r' xs' h1 h2
  · rw [List.getElem?_append_right (by omega)] at h1
    rw [List.getElem?_append_right (by rw [← h.1]; omega)] at h2
    have h3 := (List.getElem?_eq_some_iff.1 h1).1
    rw [List.length_singleton] at h3
    have h4 : i - rs.length = 0 := by omega
    rw [h4] at h1
    rw [← h.1, h4] at h2
    cases h1
    cases h2
    exact hr
theorem owns_blk {w w' : World} {base : Nat} {E : TypeId} {size n : Nat} {v : Value} {xs : List Value} (h : w.ownsRow base E size v n xs) (hb : Below w.heap.size w w') : w'.ownsRow base E size v n xs := by
  obtain ⟨h1, h2 | ⟨g', cap, cur, h3, h4, h5, h6⟩⟩ := h
  · exact ⟨h1, .inl h2⟩
  · exact ⟨h1, .inr ⟨g', cap, cur, h3, h4, (hb.block g' (own_lt h5)).trans h5, h6⟩⟩
theorem row_apart {w w' : World} {base b' n k : Nat} {v : Value} {xs : List Value} {A : Option Addr} {ys : List Int} (h : w.ownsRow base 22 1 v n xs) (h2 : OInts w b' A k ys) (hg : w.grownBy w' v.ownBlock) : OInts w' b' A k ys := by
  refine ORow.block h2 (fun p hp => hg.block _ (ORow.lt h2 p hp) (fun e => ?_))
  obtain ⟨_, ⟨rfl, _⟩ | ⟨g', cap, cur, rfl, h4, h5, _⟩⟩ := h
  · cases e
  · obtain ⟨_, ⟨rfl, _⟩ | ⟨g, m, f, rfl, h6, ⟨c, h7, _⟩, _⟩⟩ := h2
    · cases hp
    · cases hp
      have e1 : g = g' := Option.some.inj e
      rw [← e1, h7] at h5
      cases h5
theorem iss2s {w : World} {A B : Option Addr} {g a b a' b' : Nat} {xs ys : List Int} {T : TypeId} (hr : w.heap[g]? = some (.cells #[.slice A a a', .slice B b b'] T))
    (h1 : Ints w A a xs) (h2 : Ints w B b ys) (ha : a ≤ 1000) (hb : b ≤ 1000) : IntSS w (some ⟨g, 0, none⟩) 2 [xs, ys] := by
  have hlt : g < w.heap.size := (Array.getElem?_eq_some_iff.1 hr).1
  refine ⟨[⟨A, a, a'⟩, ⟨B, b, b'⟩], ⟨rfl, fun _ => ⟨g, 0, rfl, hlt, fun i x hx j u hu => ?_⟩⟩, rfl, fun i r xs hr hx => ?_⟩
  · match j, hu with
    | 0, hu =>
      simp only [RowD.cells, List.getElem?_cons_zero, Option.some.injEq] at hu
      subst hu
      match i, hx with
      | 0, hx => cases hx; exact cell_of_row w g _ _ T (0, 0) hr
      | 1, hx => cases hx; exact cell_of_row w g _ _ T (0, 0) hr
      | i + 2, hx => simp at hx
    | j + 1, hu => simp [RowD.cells] at hu
  · match i, hr, hx with
    | 0, hr, hx => cases hr; cases hx; exact ⟨h1, Nat.le_trans ha (by unfold maxLen; omega)⟩
    | 1, hr, hx => cases hr; cases hx; exact ⟨h2, Nat.le_trans hb (by unfold maxLen; omega)⟩
    | i + 2, hr, hx => simp at hr

end Go.Proofs.Ytcmmcgjpaabnoaa
