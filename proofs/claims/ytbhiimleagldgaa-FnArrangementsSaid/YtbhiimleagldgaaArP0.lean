/- Arrangements: mirrored, improved, exchanged and exchanged back, as data. No program is named. -/
import Derived.Test.YtbhiimleagldgaaBst0
import Derived.Test.YtbhiimleagldgaaArrG
import Derived.Test.YtbhiimleagldgaaMir
namespace Go.Proofs.Ytbhiimleagldgaa
set_option linter.unusedVariables false

theorem arrB_of {b : BasketD} : ∀ {ps seen : List Int}, (∀ p ∈ ps, hasBar b p = true) → ps.Nodup → (∀ p ∈ ps, p ∉ seen) → arrB b seen ps = true
  | [], _, _, _, _ => rfl
  | p :: r, seen, h1, h2, h3 => by
    rw [List.nodup_cons] at h2
    have hs : seen.contains p = false := by
      rw [Bool.eq_false_iff]
      intro h
      exact h3 p List.mem_cons_self (List.contains_iff_mem.1 h)
    rw [arrB, h1 p List.mem_cons_self, hs, arrB_of (fun q hq => h1 q (List.mem_cons_of_mem _ hq)) h2.2 (fun q hq hm => ?_)]
    · rfl
    · rcases List.mem_append.1 hm with hm | hm
      · exact h3 q (List.mem_cons_of_mem _ hq) hm
      · rw [List.mem_singleton] at hm
        subst hm
        exact h2.1 hq
theorem arrB_nodup {b : BasketD} : ∀ {ps seen : List Int}, arrB b seen ps = true → ps.Nodup ∧ ∀ p ∈ ps, p ∉ seen
  | [], _, _ => ⟨List.nodup_nil, fun p hp => by cases hp⟩
  | p :: r, seen, h => by
    simp only [arrB, Bool.and_eq_true, Bool.not_eq_true'] at h
    obtain ⟨h1, h2, h3⟩ := h
    obtain ⟨h4, h5⟩ := arrB_nodup h3
    refine ⟨List.nodup_cons.2 ⟨fun hp => h5 p hp (List.mem_append.2 (.inr (List.mem_singleton.2 rfl))), h4⟩, fun q hq hm => ?_⟩
    rcases List.mem_cons.1 hq with rfl | hq
    · rw [← Bool.not_eq_true] at h2
      exact h2 (List.contains_iff_mem.2 hm)
    · exact h5 q hq (List.mem_append.2 (.inl hm))
theorem placesOk_iff {b : BasketD} {ps : List Int} : placesOk b ps = true ↔ (∀ p ∈ ps, hasBar b p = true) ∧ ps.Nodup ∧ 1 ≤ ps.length ∧ ps.length ≤ 7 := by
  constructor
  · intro h
    have h2 := placesOk_len h
    simp only [placesOk, Bool.and_eq_true] at h
    exact ⟨arrB_mem h.1, (arrB_nodup h.1).1, h2⟩
  · rintro ⟨h1, h2, h3, h4⟩
    simp only [placesOk, Bool.and_eq_true, isIn_iff]
    exact ⟨arrB_of h1 h2 (fun p _ hp => by cases hp), by omega, by omega⟩

/-! The other way round. -/
theorem mirL_length (b : BasketD) (ps : List Int) : (mirL b ps).length = ps.length := by simp [mirL]
theorem mirL_ok {b : BasketD} {ps : List Int} (h : placesOk b ps = true) : placesOk b (mirL b ps) = true := by
  obtain ⟨h1, h2, h3, h4⟩ := placesOk_iff.1 h
  refine placesOk_iff.2 ⟨fun p hp => ?_, ?_, by rw [mirL_length]; exact h3, by rw [mirL_length]; exact h4⟩
  · simp only [mirL, List.mem_map] at hp
    obtain ⟨q, hq, rfl⟩ := hp
    have := hasBar_iff.1 (h1 q hq)
    exact hasBar_iff.2 (by omega)
  · rw [mirL, List.Nodup, List.pairwise_map]
    exact h2.imp fun hne he => hne (by omega)
theorem wait_mirror (b : BasketD) (p q : Int) : waitI b (b.bars - 1 - p) (b.bars - 1 - q) = waitI b p q := by
  unfold waitI
  by_cases h : p = q
  · subst h; simp
  · rw [if_neg (by omega), if_neg h]
    omega
theorem mirL_getD {b : BasketD} {ps : List Int} {k : Nat} (hk : k < ps.length) : (mirL b ps).getD k 0 = b.bars - 1 - ps.getD k 0 := by
  have h1 : ps[k]? = some ps[k] := List.getElem?_eq_getElem hk
  rw [getD_of' h1, getD_of' (show (mirL b ps)[k]? = some (b.bars - 1 - ps[k]) by rw [mirL, List.getElem?_map, h1]; rfl)]
theorem cost_mirror {b : BasketD} {xss : List (List Int)} {ps : List Int} (h : ps.length = xss.length) : costI b xss (mirL b ps) = costI b xss ps := by
  unfold costI costTo
  refine sumTo_congr fun i hi => ?_
  unfold costRow
  refine sumTo_congr fun k hk => ?_
  rw [mirL_getD (by omega), mirL_getD (by omega), wait_mirror]

/-! The bound. -/
theorem sumTo_le {f g : Nat → Int} : ∀ {n : Nat}, (∀ i, i < n → f i ≤ g i) → sumTo f n ≤ sumTo g n
  | 0, _ => by simp [sumTo]
  | n + 1, h => by
    have h1 := sumTo_le (n := n) fun i hi => h i (by omega)
    have h2 := h n (by omega)
    unfold sumTo
    omega
theorem bound_le {b : BasketD} {xss : List (List Int)} {ps : List Int} (hb : basketOk b = true) (hp : pairsOk xss = true) (hq : placesOk b ps = true) (h : ps.length = xss.length) : boundTo b xss xss.length ≤ costI b xss ps := by
  obtain ⟨_, h3⟩ := pairsOk_iff.1 hp
  obtain ⟨_, hnd, _⟩ := placesOk_iff.1 hq
  refine sumTo_le fun i hi => sumTo_le fun k hk => ?_
  have hx : 0 ≤ (xss.getD i []).getD k 0 := by
    have h4 : xss[i]? = some xss[i] := List.getElem?_eq_getElem hi
    rw [getD_of' h4]
    obtain ⟨h5, h6⟩ := h3 i _ h4
    have h7 : xss[i][k]? = some xss[i][k] := List.getElem?_eq_getElem (by omega)
    rw [getD_of' h7]
    exact (h6 k _ h7).1
  have hi' : ps[i]? = some ps[i] := List.getElem?_eq_getElem (by omega)
  have hk' : ps[k]? = some ps[k] := List.getElem?_eq_getElem (by omega)
  rw [getD_of' hi', getD_of' hk']
  refine Int.mul_le_mul_of_nonneg_left ?_ hx
  unfold leastI waitI
  by_cases hik : i = k
  · subst hik; simp
  · rw [if_neg hik, if_neg (fun he => hik ((List.getElem_inj hnd).1 he))]
    omega

/-! Two letters exchanged. -/
theorem swap_at {ps : List Int} {i k j : Nat} (hi : i < ps.length) (hk : k < ps.length) : (swapL ps i k)[j]? = if j = k then ps[i]? else if j = i then ps[k]? else ps[j]? := by
  have h1 : ps[i]? = some ps[i] := List.getElem?_eq_getElem hi
  have h2 : ps[k]? = some ps[k] := List.getElem?_eq_getElem hk
  rw [swapL, getD_of' h1, getD_of' h2]
  by_cases hjk : j = k
  · subst hjk
    rw [if_pos rfl, List.getElem?_set_self (by simpa using hk), h1]
  · rw [if_neg hjk, List.getElem?_set_ne (fun h => hjk h.symm)]
    by_cases hji : j = i
    · subst hji
      rw [if_pos rfl, List.getElem?_set_self hi, h2]
    · rw [if_neg hji, List.getElem?_set_ne (fun h => hji h.symm)]
theorem swap_twice {ps : List Int} {i k : Nat} (hi : i < ps.length) (hk : k < ps.length) : swapL (swapL ps i k) i k = ps := by
  refine List.ext_getElem? fun j => ?_
  rw [swap_at (by rw [swapL_length]; exact hi) (by rw [swapL_length]; exact hk), swap_at hi hk, swap_at hi hk, swap_at hi hk]
  by_cases hjk : j = k
  · subst hjk
    rw [if_pos rfl]
    by_cases hij : i = j
    · subst hij; simp
    · simp [hij]
  · rw [if_neg hjk, if_neg hjk]
    by_cases hji : j = i
    · subst hji; simp
    · simp [hji]
theorem swap_ok {b : BasketD} {ps : List Int} {i k : Nat} (hi : i < ps.length) (hk : k < ps.length) (h : placesOk b ps = true) : placesOk b (swapL ps i k) = true := by
  obtain ⟨h1, h2, h3, h4⟩ := placesOk_iff.1 h
  refine placesOk_iff.2 ⟨fun p hp => h1 p (swapL_mem hi hk p hp), ?_, by rw [swapL_length]; exact h3, by rw [swapL_length]; exact h4⟩
  suffices hsuf : ∀ x y : Nat, x < y → y < ps.length → (swapL ps i k)[x]? ≠ (swapL ps i k)[y]? from
    List.pairwise_iff_getElem.2 fun x y hx hy hxy he => hsuf x y hxy (by rw [swapL_length] at hy; exact hy) (by rw [List.getElem?_eq_getElem hx, List.getElem?_eq_getElem hy, he])
  intro x y hxy hy
  have hne : ∀ {u v : Nat}, u < ps.length → v < ps.length → u ≠ v → ps[u]? ≠ ps[v]? := fun {u v} hu hv huv he => by
    rw [List.getElem?_eq_getElem hu, List.getElem?_eq_getElem hv] at he
    exact huv ((List.getElem_inj h2).1 (Option.some.inj he))
  rw [swap_at hi hk, swap_at hi hk]
  by_cases a : x = k
  · subst a
    rw [if_pos rfl, if_neg (by omega)]
    by_cases c : y = i
    · subst c; rw [if_pos rfl]; exact hne hi hk (by omega)
    · rw [if_neg c]; exact hne hi hy (fun e => c e.symm)
  · rw [if_neg a]
    by_cases c : x = i
    · subst c
      rw [if_pos rfl]
      by_cases d : y = k
      · subst d; rw [if_pos rfl]; exact hne hk hi (by omega)
      · rw [if_neg d, if_neg (by omega)]; exact hne hk hy (fun e => d e.symm)
    · rw [if_neg c]
      by_cases d : y = k
      · subst d; rw [if_pos rfl]; exact hne (by omega) hi c
      · rw [if_neg d]
        by_cases e : y = i
        · subst e; rw [if_pos rfl]; exact hne (by omega) hk a
        · rw [if_neg e]; exact hne (by omega) hy (by omega)

/-! Improved. -/
theorem improve_all {b : BasketD} {xss : List (List Int)} (hb : basketOk b = true) (hp : pairsOk xss = true) : ∀ (f : Nat) (ps : List Int), placesOk b ps = true →
    placesOk b (improveF b xss f ps) = true ∧ (improveF b xss f ps).length = ps.length ∧ costI b xss (improveF b xss f ps) ≤ costI b xss ps ∧ ((costI b xss ps).toNat < f → bestB b xss (improveF b xss f ps) = none)
  | 0, ps, h => ⟨h, rfl, Int.le_refl _, fun hf => absurd hf (by omega)⟩
  | f + 1, ps, h => by
    cases ho : bestB b xss ps with
    | none =>
      rw [improveF_none (by omega) ho]
      exact ⟨h, rfl, Int.le_refl _, fun _ => ho⟩
    | some p =>
      obtain ⟨i, k⟩ := p
      obtain ⟨i1, i2, i3⟩ := bestB_some ho
      rw [improveF_some ho]
      obtain ⟨q1, q2, q3, q4⟩ := improve_all hb hp f (swapL ps i k) (swap_ok (by omega) i2 h)
      have hpos : 0 ≤ costI b xss (swapL ps i k) := (costTo_range hb hp (swapL ps i k) xss.length (pairsOk_iff.1 hp).1.2).1
      exact ⟨q1, by rw [q2, swapL_length], by omega, fun hf => q4 (by omega)⟩
theorem improveL_all {b : BasketD} {xss : List (List Int)} {ps : List Int} (hb : basketOk b = true) (hp : pairsOk xss = true) (h : placesOk b ps = true) :
    placesOk b (improveL b xss ps) = true ∧ (improveL b xss ps).length = ps.length ∧ costI b xss (improveL b xss ps) ≤ costI b xss ps ∧ bestB b xss (improveL b xss ps) = none := by
  obtain ⟨h1, h2, h3, h4⟩ := improve_all hb hp ((costI b xss ps).toNat + 1) ps h
  exact ⟨h1, h2, h3, h4 (by omega)⟩
theorem improveL_none {b : BasketD} {xss : List (List Int)} {ps : List Int} (ho : bestB b xss ps = none) : improveL b xss ps = ps := improveF_none (by omega) ho
theorem improveL_some {b : BasketD} {xss : List (List Int)} {ps : List Int} (hb : basketOk b = true) (hp : pairsOk xss = true) (h : placesOk b ps = true) {i k : Nat} (ho : bestB b xss ps = some (i, k)) : costI b xss (improveL b xss ps) ≤ costI b xss (swapL ps i k) := by
  obtain ⟨i1, i2, i3⟩ := bestB_some ho
  rw [improveL, improveF_some ho]
  exact (improve_all hb hp _ _ (swap_ok (by omega) i2 h)).2.2.1
end Go.Proofs.Ytbhiimleagldgaa
