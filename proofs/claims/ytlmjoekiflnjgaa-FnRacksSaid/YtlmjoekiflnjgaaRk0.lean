/- Racks: setting and clearing lead back, and the next stop; without a program. -/
import Derived.Test.YtlmjoekiflnjgaaTab1
namespace Go.Proofs.Ytlmjoekiflnjgaa
set_option linter.unusedVariables false
set_option linter.unusedSimpArgs false

theorem contains_ge {c : Int} {xs : List Int} (h : ∀ x ∈ xs, c < x) : xs.contains c = false := not_mem_of_gt h
theorem filter_id {c : Int} {xs : List Int} (h : xs.contains c = false) : xs.filter (fun x => x != c) = xs := by
  apply List.filter_eq_self.2
  intro x hx
  simp only [bne_iff_ne, ne_eq]
  rintro rfl
  rw [List.contains_eq_mem, decide_eq_false_iff_not] at h
  exact h hx
/-- A stop that is set. -/
theorem set_back {hi m : Int} : ∀ {xs : List Int} {lo : Int}, risesB hi lo xs = true → lo ≤ m → m ≤ hi → xs.contains m = false →
    risesB hi lo (put8 m false xs) = true ∧ (put8 m false xs).contains m = true ∧ (put8 m false xs).filter (fun x => x != m) = xs ∧ (put8 m false xs).length = xs.length + 1
  | [], lo, _, h0, h1, _ => by simp [put8, risesB, inR, h0, h1]
  | x :: r, lo, h, h0, h1, hc => by
    simp only [risesB, Bool.and_eq_true, inR_iff] at h
    simp only [List.contains_cons, Bool.or_eq_false_iff] at hc
    have hne : m ≠ x := by simpa using hc.1
    have hxm : (x != m) = true := by simpa using fun e => hne e.symm
    by_cases hlt : m < x
    · have hp : put8 m false (x :: r) = m :: x :: r := by
        simp only [put8]
        rw [if_pos (by simp; omega), if_pos hlt, put8_true]
      rw [hp]
      refine ⟨?_, by simp, ?_, by simp⟩
      · simp only [risesB, Bool.and_eq_true, inR_iff]
        exact ⟨⟨h0, h1⟩, ⟨by omega, h.1.2⟩, h.2⟩
      · rw [List.filter_cons, if_neg (by simp)]
        rw [filter_id (by rw [List.contains_cons, hc.1, hc.2]; rfl)]
    · have hp : put8 m false (x :: r) = x :: put8 m false r := by
        simp only [put8]
        rw [if_neg (by simp; omega)]
      obtain ⟨i1, i2, i3, i4⟩ := set_back h.2 (by omega) h1 hc.2
      rw [hp]
      refine ⟨?_, ?_, ?_, by simp [i4]⟩
      · simp only [risesB, Bool.and_eq_true, inR_iff]
        exact ⟨h.1, i1⟩
      · rw [List.contains_cons, i2, Bool.or_true]
      · rw [List.filter_cons, if_pos hxm, i3]
/-- A stop that is cleared. -/
theorem clear_back {hi m : Int} : ∀ {xs : List Int} {lo : Int}, risesB hi lo xs = true → xs.contains m = true →
    risesB hi lo (xs.filter (fun x => x != m)) = true ∧ (xs.filter (fun x => x != m)).contains m = false ∧ put8 m false (xs.filter (fun x => x != m)) = xs ∧ (xs.filter (fun x => x != m)).length + 1 = xs.length
  | [], lo, _, hc => by simp at hc
  | x :: r, lo, h, hc => by
    simp only [risesB, Bool.and_eq_true, inR_iff] at h
    have hge := rises_ge h.2
    by_cases hx : m = x
    · subst hx
      have hr : r.filter (fun x => x != m) = r := filter_id (contains_ge (fun y hy => by have := hge y hy; omega))
      rw [List.filter_cons, if_neg (by simp), hr]
      refine ⟨?_, contains_ge (fun y hy => by have := hge y hy; omega), ?_, by simp⟩
      · cases r with
        | nil => rfl
        | cons z s =>
          have h2 := h.2
          simp only [risesB, Bool.and_eq_true, inR_iff] at h2 ⊢
          exact ⟨⟨by omega, h2.1.2⟩, h2.2⟩
      · cases r with
        | nil => rfl
        | cons z s =>
          have := hge z (by simp)
          simp only [put8]
          rw [if_pos (by simp; omega), if_pos (by omega), put8_true]
    · have hxm : (x != m) = true := by simpa using fun e => hx e.symm
      have hc2 : r.contains m = true := by
        rw [List.contains_cons] at hc
        have : (m == x) = false := by simpa using hx
        rwa [this, Bool.false_or] at hc
      have hmr : x < m := by
        have hm : m ∈ r := by simpa using hc2
        have := hge m hm
        omega
      obtain ⟨i1, i2, i3, i4⟩ := clear_back h.2 hc2
      rw [List.filter_cons, if_pos hxm]
      refine ⟨?_, ?_, ?_, by simp [i4]⟩
      · simp only [risesB, Bool.and_eq_true, inR_iff]
        exact ⟨h.1, i1⟩
      · rw [List.contains_cons, i2, Bool.or_false]
        simpa using hx
      · simp only [put8]
        rw [if_neg (by simp; omega), i3]
theorem set_clear {ps : List Int} {m : Int} (h : (setR ps m).2 = 0) : clearR (setR ps m).1 m = (ps, 0) := by
  unfold setR at h ⊢
  by_cases h0 : rackCode ps m = 0
  · rw [if_pos h0] at h ⊢
    cases hc : ps.contains m with
    | true => rw [hc, if_pos rfl] at h; cases h
    | false =>
      simp only [hc, Bool.false_eq_true, if_false] at h ⊢
      by_cases h12 : 12 ≤ ps.length
      · rw [if_pos h12] at h; cases h
      · rw [if_neg h12]
        obtain ⟨hok, hcol⟩ := rackCode_ok h0
        obtain ⟨hl, hr⟩ := rackB_len hok
        obtain ⟨c0, c1⟩ := inR_iff.1 hcol
        obtain ⟨i1, i2, i3, i4⟩ := set_back hr c0 c1 hc
        have hrb : rackB (put8 m false ps) = true := by rw [rackB, i1, i4, decide_eq_true (by omega)]; rfl
        simp only [clearR, rackCode_0 hrb hcol, i2, i3, if_true]
  · rw [if_neg h0] at h
    exact absurd h h0
theorem clear_set {ps : List Int} {m : Int} (h : (clearR ps m).2 = 0) : setR (clearR ps m).1 m = (ps, 0) := by
  unfold clearR at h ⊢
  by_cases h0 : rackCode ps m = 0
  · rw [if_pos h0] at h ⊢
    cases hc : ps.contains m with
    | false => rw [hc, if_neg (by decide)] at h; cases h
    | true =>
      rw [if_pos rfl]
      obtain ⟨hok, hcol⟩ := rackCode_ok h0
      obtain ⟨hl, hr⟩ := rackB_len hok
      obtain ⟨i1, i2, i3, i4⟩ := clear_back hr hc
      have hrb : rackB (ps.filter (fun x => x != m)) = true := by rw [rackB, i1, decide_eq_true (by omega)]; rfl
      simp only [setR, rackCode_0 hrb hcol, i2, i3, if_true]
      rw [if_neg (by decide), if_neg (by omega)]
  · rw [if_neg h0] at h
    exact absurd h h0
/-- What the next stop is: a stop behind the column, and none between. -/
theorem next_is {ps : List Int} {m : Int} (h : (nextR ps m).2 = 0) : m < (nextR ps m).1 ∧ ps.contains (nextR ps m).1 = true ∧ ∀ x ∈ ps, ¬ (m < x ∧ x < (nextR ps m).1) := by
  unfold nextR at h ⊢
  by_cases h0 : rackCode ps m = 0
  · rw [if_pos h0] at h ⊢
    obtain ⟨hok, hcol⟩ := rackCode_ok h0
    obtain ⟨hl, hr⟩ := rackB_len hok
    cases hf : ps.find? (fun x => decide (m < x)) with
    | none => rw [hf] at h; cases h
    | some y =>
      rw [hf] at h
      simp only [nextO]
      have h1 := List.find?_some hf
      have h2 := List.mem_of_find?_eq_some hf
      refine ⟨by simpa using h1, by simpa using h2, fun x hx hxy => ?_⟩
      -- x is before y in the rising list, so it would have been found
      have key : ∀ {xs : List Int} {lo : Int}, risesB 119 lo xs = true → xs.find? (fun x => decide (m < x)) = some y → ∀ x ∈ xs, m < x → y ≤ x := by
        intro xs
        induction xs with
        | nil => intro lo _ _ x hx; cases hx
        | cons z r ih =>
          intro lo hr hf x hx hmx
          simp only [risesB, Bool.and_eq_true, inR_iff] at hr
          rw [List.find?_cons] at hf
          by_cases hz : m < z
          · rw [decide_eq_true hz] at hf
            have hzy : z = y := by simpa using hf
            subst hzy
            rcases List.mem_cons.1 hx with rfl | hx
            · omega
            · have := rises_ge hr.2 x hx; omega
          · rw [decide_eq_false hz] at hf
            rcases List.mem_cons.1 hx with rfl | hx
            · omega
            · exact ih hr.2 hf x hx hmx
      have := key hr hf x hx hxy.1
      omega
  · rw [if_neg h0] at h
    exact absurd h h0
end Go.Proofs.Ytlmjoekiflnjgaa
