/- SPDX-License-Identifier: none -/
import Derived.Test.YticggclpaalhgaaLay1
import Derived.Test.YticggclpaalhgaaChg6
namespace Go.Proofs.Yticggclpaalhgaa
open Go
/-- The keys of a layout, row by row. -/
def flat6 (l : List ByteArray) : List UInt8 := l.flatMap (fun s => s.data.toList)
theorem flat6_chg (a b : UInt8) : ∀ l : List ByteArray, flat6 (l.map (chgB a b)) = (flat6 l).map (chg a b)
  | [] => rfl
  | s :: l => by
    have := flat6_chg a b l
    simp only [flat6, List.map_cons, List.flatMap_cons, List.map_append] at this ⊢
    rw [this]
    rfl
/-- The keys after k places, and the exchanges so far. -/
def planAt (fa fb : List UInt8) : Nat → List UInt8 × List ByteArray
  | 0 => (fa, [])
  | k + 1 =>
    match (planAt fa fb k).1[k]?, fb[k]? with
    | some h, some w => if h = w then planAt fa fb k else ((planAt fa fb k).1.map (chg h w), (planAt fa fb k).2 ++ [⟨#[h, w]⟩])
    | _, _ => planAt fa fb k
theorem planAt_same {fa fb : List UInt8} {k : Nat} {h : UInt8} (h1 : (planAt fa fb k).1[k]? = some h) (h2 : fb[k]? = some h) : planAt fa fb (k + 1) = planAt fa fb k := by
  simp [planAt, h1, h2]
theorem planAt_chg {fa fb : List UInt8} {k : Nat} {h w : UInt8} (h1 : (planAt fa fb k).1[k]? = some h) (h2 : fb[k]? = some w) (hn : h ≠ w) : planAt fa fb (k + 1) = ((planAt fa fb k).1.map (chg h w), (planAt fa fb k).2 ++ [⟨#[h, w]⟩]) := by
  simp [planAt, h1, h2, hn]
theorem planAt_len (fa fb : List UInt8) : ∀ k, (planAt fa fb k).1.length = fa.length
  | 0 => rfl
  | k + 1 => by
    have := planAt_len fa fb k
    unfold planAt
    split
    · split
      · exact this
      · simpa using this
    · exact this
theorem planAt_out (fa fb : List UInt8) : ∀ k, (planAt fa fb k).2.length ≤ k
  | 0 => Nat.le_refl _
  | k + 1 => by
    have := planAt_out fa fb k
    unfold planAt
    split
    · split
      · omega
      · simp only [List.length_append, List.length_cons, List.length_nil]; omega
    · omega
theorem chg_inj {a b x y : UInt8} (h : chg a b x = chg a b y) : x = y := by
  unfold chg at h
  repeat' split at h
  all_goals subst_vars
  all_goals first | rfl | contradiction | (exfalso; simp_all) | simp_all
theorem chg_mem {a b : UInt8} {l : List UInt8} (ha : a ∈ l) (hb : b ∈ l) (x : UInt8) : x ∈ l.map (chg a b) ↔ x ∈ l := by
  simp only [List.mem_map]
  constructor
  · rintro ⟨y, hy, rfl⟩
    unfold chg
    split
    · exact hb
    · split
      · exact ha
      · exact hy
  · intro hx
    refine ⟨chg a b x, ?_, ?_⟩
    · unfold chg
      split
      · exact hb
      · split
        · exact ha
        · exact hx
    · unfold chg
      repeat' split
      all_goals simp_all
theorem planAt_nodup {fa fb : List UInt8} (hn : fa.Nodup) : ∀ k, (planAt fa fb k).1.Nodup
  | 0 => hn
  | k + 1 => by
    have := planAt_nodup (fb := fb) hn k
    unfold planAt
    split
    · split
      · exact this
      · exact List.Pairwise.map _ (fun _ _ h1 h2 => h1 (chg_inj h2)) this
    · exact this
/-- No letter comes and none goes. -/
theorem planAt_mem {fa fb : List UInt8} (hb : ∀ x ∈ fb, x ∈ fa) : ∀ k x, x ∈ (planAt fa fb k).1 ↔ x ∈ fa
  | 0, _ => Iff.rfl
  | k + 1, x => by
    have ih := planAt_mem hb k
    unfold planAt
    split
    · rename_i h w h1 h2
      split
      · exact ih x
      · exact (chg_mem (List.mem_of_getElem? h1) ((ih w).2 (hb w (List.mem_of_getElem? h2))) x).trans (ih x)
    · exact ih x
/-- Two bytes change places: that is the exchange, where no byte stands twice. -/
theorem swap_chg {l : List UInt8} (hn : l.Nodup) {i k : Nat} {h w : UInt8} (hi : l[i]? = some h) (hk : l[k]? = some w) : (l.set i w).set k h = l.map (chg h w) := by
  obtain ⟨i1, i2⟩ := List.getElem?_eq_some_iff.1 hi
  obtain ⟨k1, k2⟩ := List.getElem?_eq_some_iff.1 hk
  refine List.ext_getElem (by simp) fun j h1 h2 => ?_
  have hj : j < l.length := by simpa using h1
  rw [List.getElem_set, List.getElem_map]
  unfold chg
  split
  · rename_i e
    subst e
    rw [k2]
    split
    · rename_i e; exact e.symm
    · rw [if_pos rfl]
  · rename_i e
    rw [List.getElem_set]
    split
    · rename_i e2
      subst e2
      rw [if_pos i2]
    · rename_i e2
      have n1 : l[j] ≠ h := fun e3 => e2 ((List.getElem?_inj i1 hn).1 (by rw [hi, List.getElem?_eq_getElem hj, e3]))
      have n2 : l[j] ≠ w := fun e3 => e ((List.getElem?_inj k1 hn).1 (by rw [hk, List.getElem?_eq_getElem hj, e3]))
      rw [if_neg n1, if_neg n2]
/-- A place's index among all keys. -/
theorem flat6_at : ∀ {xs : List ByteArray} {r c : Nat} {s : ByteArray} {u : UInt8}, xs[r]? = some s → s.data.toList[c]? = some u → (flat6 xs)[(flat6 (xs.take r)).length + c]? = some u
  | s0 :: xs, 0, c, s, u, h, hu => by
    simp only [List.getElem?_cons_zero, Option.some.injEq] at h
    subst h
    obtain ⟨h1, _⟩ := List.getElem?_eq_some_iff.1 hu
    simp only [flat6, List.take_zero, List.flatMap_nil, List.length_nil, Nat.zero_add, List.flatMap_cons]
    rw [List.getElem?_append_left h1]
    exact hu
  | s0 :: xs, r + 1, c, s, u, h, hu => by
    simp only [List.getElem?_cons_succ] at h
    have := flat6_at (xs := xs) h hu
    simp only [flat6, List.take_succ_cons, List.flatMap_cons, List.length_append] at this ⊢
    rw [List.getElem?_append_right (by omega)]
    rwa [Nat.add_assoc, Nat.add_sub_cancel_left]
  | [], r, c, s, u, h, _ => by simp at h
theorem flat6_len : ∀ (xs : List ByteArray), (flat6 xs).length = (xs.map (·.size)).sum
  | [] => rfl
  | s :: xs => by
    have := flat6_len xs
    simp only [flat6, List.flatMap_cons, List.length_append, List.map_cons, List.sum_cons] at this ⊢
    rw [this]
    rfl
theorem flat6_shape {a b : List ByteArray} (h : a.map (·.size) = b.map (·.size)) (r : Nat) : (flat6 (a.take r)).length = (flat6 (b.take r)).length := by
  rw [flat6_len, flat6_len, List.map_take, List.map_take, h]
theorem flat6_step {bs : List ByteArray} {r : Nat} {s : ByteArray} (h : bs[r]? = some s) : (flat6 (bs.take (r + 1))).length = (flat6 (bs.take r)).length + s.size := by
  obtain ⟨h1, h2⟩ := List.getElem?_eq_some_iff.1 h
  rw [List.take_succ_eq_append_getElem h1, h2]
  simp only [flat6, List.flatMap_append, List.flatMap_cons, List.flatMap_nil, List.append_nil, List.length_append]
  rfl
theorem chgB_size (a b : UInt8) (s : ByteArray) : (chgB a b s).size = s.size := by
  show ((s.data.toList.map (chg a b)).toArray).size = s.data.size
  simp
theorem chgB_shape (a b : UInt8) (l : List ByteArray) : (l.map (chgB a b)).map (·.size) = l.map (·.size) := by
  rw [List.map_map]
  exact List.map_congr_left fun s _ => chgB_size a b s
/-- The rows between two places of the model's walk: the shape of the second layout, the keys of the plan. -/
structure PlnX (a b X : List ByteArray) (k : Nat) : Prop where
  shape : X.map (·.size) = b.map (·.size)
  keys : flat6 X = (planAt (flat6 a) (flat6 b) k).1
theorem PlnX.zero {a b : List ByteArray} (h : a.map (·.size) = b.map (·.size)) : PlnX a b a 0 := ⟨h, rfl⟩
/-- At a place both have a byte. -/
theorem PlnX.at {a b X : List ByteArray} {r c : Nat} {s : ByteArray} (h : PlnX a b X ((flat6 (b.take r)).length + c)) (hs : b[r]? = some s) (hc : c < s.size) :
    ∃ t u w, X[r]? = some t ∧ t.data.toList[c]? = some u ∧ s.data.toList[c]? = some w ∧ t.size = s.size ∧ (planAt (flat6 a) (flat6 b) ((flat6 (b.take r)).length + c)).1[(flat6 (b.take r)).length + c]? = some u ∧ (flat6 b)[(flat6 (b.take r)).length + c]? = some w := by
  have h0 := congrArg (fun l => l[r]?) h.shape
  simp only [List.getElem?_map, hs, Option.map_some] at h0
  obtain ⟨t, ht, hts⟩ := Option.map_eq_some_iff.1 h0
  have hc' : c < t.data.toList.length := by rw [Array.length_toList]; show c < t.size; omega
  have hc2 : c < s.data.toList.length := by rw [Array.length_toList]; exact hc
  have e1 := List.getElem?_eq_getElem hc'
  have e2 := List.getElem?_eq_getElem hc2
  refine ⟨t, _, _, ht, e1, e2, hts, ?_, flat6_at hs e2⟩
  have := flat6_at ht e1
  rwa [flat6_shape h.shape, h.keys] at this
theorem PlnX.same {a b X : List ByteArray} {k : Nat} {u : UInt8} (h : PlnX a b X k) (h1 : (planAt (flat6 a) (flat6 b) k).1[k]? = some u) (h2 : (flat6 b)[k]? = some u) : PlnX a b X (k + 1) :=
  ⟨h.shape, by rw [planAt_same h1 h2]; exact h.keys⟩
theorem PlnX.chg {a b X : List ByteArray} {k : Nat} {u w : UInt8} (h : PlnX a b X k) (h1 : (planAt (flat6 a) (flat6 b) k).1[k]? = some u) (h2 : (flat6 b)[k]? = some w) (hn : u ≠ w) : PlnX a b (X.map (chgB u w)) (k + 1) :=
  ⟨(chgB_shape u w X).trans h.shape, by rw [planAt_chg h1 h2 hn, flat6_chg, h.keys]⟩
end Go.Proofs.Yticggclpaalhgaa
