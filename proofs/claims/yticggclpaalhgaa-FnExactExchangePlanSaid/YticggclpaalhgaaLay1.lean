/- Two layouts: their code, the letters that have moved, how far; exchanges of letters. No program is named. -/
import Derived.Test.YticggclpaalhgaaLay0
namespace Go.Proofs.Yticggclpaalhgaa
set_option linter.unusedVariables false
set_option linter.unusedSimpArgs false

theorem subset_rev {α : Type} [DecidableEq α] : ∀ {A B : List α}, A.Nodup → (∀ x ∈ A, x ∈ B) → B.length ≤ A.length → ∀ x ∈ B, x ∈ A
  | [], B, _, _, h, x, hx => by
    have : B = [] := List.length_eq_zero_iff.1 (by simpa using h)
    subst this
    cases hx
  | a :: A, B, hn, hs, h, x, hx => by
    have ha : a ∈ B := hs a (by simp)
    simp only [List.nodup_cons] at hn
    have hl := List.length_erase_of_mem ha
    have hp : 0 < B.length := List.length_pos_of_mem ha
    by_cases e : x = a
    · subst e; simp
    · refine List.mem_cons_of_mem _ (subset_rev (B := B.erase a) hn.2 (fun y hy => ?_) ?_ x ((List.mem_erase_of_ne e).2 hx))
      · have hya : y ≠ a := fun e => hn.1 (e ▸ hy)
        exact (List.mem_erase_of_ne hya).2 (hs y (List.mem_cons_of_mem _ hy))
      · simp only [List.length_cons] at h; omega

def sameShape (a b : List ByteArray) : Bool := decide (a.map (·.size) = b.map (·.size))
def allIn (a b : List ByteArray) : Bool := (keysFrom 0 a).all fun e => (look6 e.1 (keysFrom 0 b)).isSome
def bothCode (a b : List ByteArray) : Int := if (layOk a && layOk b) = true then (if (sameShape a b && allIn a b) = true then 0 else 9) else 1
theorem bothCode_0 {a b : List ByteArray} (h : bothCode a b = 0) : (layOk a = true ∧ layOk b = true) ∧ sameShape a b = true ∧ allIn a b = true := by
  unfold bothCode at h
  split at h
  · rename_i h1
    split at h
    · rename_i h2
      simp only [Bool.and_eq_true] at h1 h2
      exact ⟨h1, h2⟩
    · cases h
  · cases h
theorem rowKeys_length (r : Nat) : ∀ (l : List UInt8) (j : Nat), (rowKeys r j l).length = l.length
  | [], _ => rfl
  | c :: l, j => by simp [rowKeys, rowKeys_length r l (j + 1)]
theorem keysFrom_shape : ∀ {a b : List ByteArray} {i : Nat}, a.map (·.size) = b.map (·.size) → (keysFrom i a).map (·.2) = (keysFrom i b).map (·.2)
  | [], [], _, _ => rfl
  | [], _ :: _, _, h => by cases h
  | _ :: _, [], _, h => by cases h
  | s :: a, t :: b, i, h => by
    simp only [List.map_cons, List.cons.injEq] at h
    have hrow : ∀ (l m : List UInt8) (j : Nat), l.length = m.length → (rowKeys i j l).map (·.2) = (rowKeys i j m).map (·.2) := by
      intro l
      induction l with
      | nil => intro m j hm; cases m with
        | nil => rfl
        | cons _ _ => cases hm
      | cons c l ih => intro m j hm; cases m with
        | nil => cases hm
        | cons d m => simp only [rowKeys, List.map_cons, List.cons.injEq, true_and]; exact ih m (j + 1) (by simpa using hm)
    simp only [keysFrom, List.map_append, keysFrom_shape h.2]
    rw [hrow _ t.data.toList 0 (by rw [size_len, size_len]; exact h.1)]
theorem allIn_iff {a b : List ByteArray} : allIn a b = true ↔ ∀ x ∈ (keysFrom 0 a).map (·.1), x ∈ (keysFrom 0 b).map (·.1) := by
  simp only [allIn, List.all_eq_true, List.mem_map, forall_exists_index, and_imp, forall_apply_eq_imp_iff₂]
  refine forall_congr' fun e => forall_congr' fun he => ?_
  rw [look6_some]
  simp
theorem allIn_rev {a b : List ByteArray} (hn : layOk a = true) (hs : sameShape a b = true) (h : allIn a b = true) : allIn b a = true := by
  rw [allIn_iff] at h ⊢
  have hk := keysFrom_shape (i := 0) (of_decide_eq_true hs)
  have hl : (keysFrom 0 b).length = (keysFrom 0 a).length := by have := congrArg List.length hk; simpa using this.symm
  exact subset_rev (layOk_nodup hn) h (by simp [hl])
def movedB (a b : List ByteArray) (x : UInt8) : Bool := decide ((look6 x (keysFrom 0 a)).getD (0, 0) ≠ (look6 x (keysFrom 0 b)).getD (0, 0))
def movedE (b : List ByteArray) (e : UInt8 × Nat × Nat) : Bool := decide (look6 e.1 (keysFrom 0 b) ≠ some e.2)
theorem moved_is {a b : List ByteArray} (h : bothCode a b = 0) (x : UInt8) : ((keysFrom 0 a).any fun e => movedE b e && decide (x = e.1)) = movedB a b x := by
  obtain ⟨⟨h1, h2⟩, h3, h4⟩ := bothCode_0 h
  have h5 := allIn_rev h1 h3 h4
  rw [allIn_iff] at h4 h5
  unfold movedB
  cases ha : look6 x (keysFrom 0 a) with
  | none =>
    have hx : x ∉ (keysFrom 0 a).map (·.1) := look6_none.1 ha
    have hb : look6 x (keysFrom 0 b) = none := look6_none.2 fun hm => hx (h5 x hm)
    rw [hb]
    simp only [Option.getD_none, ne_eq, not_true_eq_false, decide_false]
    rw [List.any_eq_false]
    intro e he
    have : ¬ x = e.1 := fun e1 => hx (e1 ▸ List.mem_map_of_mem (f := (·.1)) he)
    simp [this]
  | some p =>
    have hx : x ∈ (keysFrom 0 a).map (·.1) := look6_some.1 (by rw [ha]; rfl)
    have hb := look6_some.2 (h4 x hx)
    obtain ⟨q, hq⟩ := Option.isSome_iff_exists.1 hb
    rw [hq]
    simp only [Option.getD_some]
    by_cases hpq : p = q
    · subst hpq
      simp only [ne_eq, not_true_eq_false, decide_false]
      rw [List.any_eq_false]
      intro e he hh
      simp only [Bool.and_eq_true, decide_eq_true_eq, movedE] at hh
      obtain ⟨h6, rfl⟩ := hh
      have := look6_of_mem (layOk_nodup h1) he
      rw [ha] at this
      exact h6 (by rw [hq, this])
    · simp only [ne_eq, hpq, not_false_eq_true, decide_true]
      rw [List.any_eq_true]
      refine ⟨(x, p), look6_mem ha, ?_⟩
      simp only [movedE, hq, decide_true, Bool.and_true, decide_eq_true_eq, ne_eq, Option.some.injEq]
      exact fun e => hpq e.symm
/-- At one place of both layouts: the letters are equal just if that of the first one has not moved. -/
theorem moved_at {a b : List ByteArray} (h : bothCode a b = 0) {r c : Nat} {s t : ByteArray} {x y : UInt8} (hs : a[r]? = some s) (ht : b[r]? = some t) (hx : s.data.toList[c]? = some x) (hy : t.data.toList[c]? = some y) : movedE b (x, r, c) = decide (x ≠ y) := by
  obtain ⟨⟨h1, h2⟩, h3, h4⟩ := bothCode_0 h
  have hf := (layOk_finds.1 h2).2 r t ht
  have hy' := hf.2 c y hy
  unfold movedE
  by_cases e : x = y
  · subst e
    simp [hy']
  · simp only [ne_eq, e, not_false_eq_true, decide_true, decide_eq_true_eq]
    intro hx'
    have m1 := look6_mem hx'
    obtain ⟨_, t', ht', hx''⟩ := keysFrom_mem.1 m1
    simp only [Nat.sub_zero] at ht'
    rw [ht] at ht'
    cases ht'
    simp only at hx''
    rw [hy] at hx''
    exact e (Option.some.inj hx'').symm
def absI (n : Int) : Int := if n < 0 then -n else n
def distE (b : List ByteArray) (e : UInt8 × Nat × Nat) : Int := absI (((look6 e.1 (keysFrom 0 b)).getD (0, 0)).1 - e.2.1) + absI (((look6 e.1 (keysFrom 0 b)).getD (0, 0)).2 - e.2.2)
def sumE (b : List ByteArray) : Spots → Int
  | [] => 0
  | e :: l => distE b e + sumE b l
theorem sumE_append (b : List ByteArray) : ∀ (x y : Spots), sumE b (x ++ y) = sumE b x + sumE b y
  | [], y => by simp [sumE]
  | e :: x, y => by simp [sumE, sumE_append b x y, Int.add_assoc]
theorem sumE_perm (b : List ByteArray) {x y : Spots} (h : x.Perm y) : sumE b x = sumE b y := by
  induction h with
  | nil => rfl
  | cons e _ ih => simp [sumE, ih]
  | swap e f l => simp only [sumE]; omega
  | trans _ _ ih1 ih2 => exact ih1.trans ih2
end Go.Proofs.Yticggclpaalhgaa
