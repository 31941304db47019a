/- Plans that are run: without a program: the letters of a row, all thirty, against the row that grows. -/
import Derived.Test.YtcmmcgjpaabnoaaDoorPs0
import Derived.Test.YtcmmcgjpaabnoaaDoorTm7
import Derived.Lib.TrimByte
namespace Go.Proofs.YtcmmcgjpaabnoaaDoor
open Go.RowKit Go.ChangeShapes Go.WideShapes Go.Deep
set_option linter.unusedVariables false
set_option linter.unusedSimpArgs false

/-- What the steps do to the letters of a row. -/
def doF (ps : List Int) : List Stp → List UInt8 → Nat → Option (List UInt8)
  | [], L, _ => some L
  | (c, t) :: r, L, a => if t = true then (if a = 30 then none else if (L.getD a 0).toNat = 32 then doF ps r (L.set a c) (a + 1) else none) else if nextP ps a c < 0 then none else doF ps r L (nextP ps a c).toNat
/-- A row, filled up with blanks. -/
def P30 (O : List UInt8) : List UInt8 := O ++ List.replicate (30 - O.length) 32
def okO (O : List UInt8) : Prop := O.length ≤ 30 ∧ ∀ x, O.getLast? = some x → ¬ x.toNat = 32
theorem P30_len {O : List UInt8} (h : O.length ≤ 30) : (P30 O).length = 30 := by simp [P30]; omega
theorem trim_P30 {O : List UInt8} (h : okO O) : Lib.trimRightB (P30 O) 32 = O := by
  unfold Lib.trimRightB P30
  rw [List.reverse_append, List.reverse_replicate]
  have h1 : ∀ n : Nat, ∀ l : List UInt8, (List.replicate n (32 : UInt8) ++ l).dropWhile (· == 32) = l.dropWhile (· == 32) := fun n => by
    induction n with
    | zero => intro l; rfl
    | succ n ih => intro l; rw [List.replicate_succ, List.cons_append, List.dropWhile_cons_of_pos (by simp), ih]
  rw [h1]
  rcases List.eq_nil_or_concat O with rfl | ⟨l, x, rfl⟩
  · rfl
  · rw [List.concat_eq_append, List.reverse_append, List.reverse_singleton, List.singleton_append, List.dropWhile_cons_of_neg, List.reverse_cons, List.reverse_reverse]
    have := h.2 x (by simp)
    intro e
    apply this
    have e2 : x = 32 := by simpa using e
    rw [e2]
    rfl
theorem padL_P30 {O : List UInt8} {a : Nat} (ha : a < 30) (hO : O.length ≤ 30) : P30 (padL O a) = P30 O := by
  unfold P30 padL
  rw [List.append_assoc]
  congr 1
  rw [List.length_append, List.length_replicate, List.replicate_append_replicate]
  congr 1
  omega
theorem set_P30 {X : List UInt8} {a : Nat} (c : UInt8) (ha : a < X.length) : P30 (X.set a c) = (P30 X).set a c := by
  unfold P30
  rw [List.length_set, List.set_append_left _ _ ha]
theorem getD_P30 {X : List UInt8} {a : Nat} (ha : a < X.length) : (P30 X).getD a 0 = X.getD a 0 := by
  unfold P30
  rw [List.getD, List.getD, List.getElem?_append_left ha]
theorem okO_set {O : List UInt8} {a : Nat} {c : UInt8} (h : okO O) (ha : a < 30) (hb : ((padL O a).getD a 0).toNat = 32) (hc : ¬ c.toNat = 32) : okO ((padL O a).set a c) := by
  have hl := padL_len O a
  refine ⟨by rw [List.length_set, hl]; have := h.1; omega, fun x hx => ?_⟩
  rw [List.getLast?_eq_getElem?, List.length_set, hl] at hx
  by_cases hlt : a < O.length
  · have e : padL O a = O := by simp [padL]; omega
    rw [e] at hx hb
    rw [show max O.length (a + 1) - 1 = O.length - 1 by omega] at hx
    by_cases hae : a = O.length - 1
    · subst hae
      rw [List.getElem?_set_self hlt] at hx
      cases hx
      exact hc
    · rw [List.getElem?_set_ne hae] at hx
      exact h.2 x (by rw [List.getLast?_eq_getElem?]; exact hx)
  · rw [show max O.length (a + 1) - 1 = a by omega, List.getElem?_set_self (by rw [hl]; omega)] at hx
    cases hx
    exact hc
theorem let_ne {c : UInt8} (h : letQ c = true) : ¬ c.toNat = 32 := by
  simp only [letQ, Bool.and_eq_true, decide_eq_true_eq] at h
  omega
theorem mv_none {ps : List Int} {a : Nat} {m : UInt8} (h : mvQ m = false) : nextP ps a m < 0 := by
  have hno : ¬ m.toNat = 35 ∧ ¬ m.toNat = 60 ∧ ¬ m.toNat = 62 := by simpa [mvQ] using h
  have e : rawP ps a m = -1 := by simp [rawP, hno.1, hno.2.1, hno.2.2]
  unfold nextP
  rw [e]
  split <;> omega
/-- Both ways to run a plan give the same row. -/
theorem run_do (ps : List Int) : ∀ (n : Nat) (l O : List UInt8) (a : Nat), l.length ≤ n → okO O → a ≤ 30 → runF ps l O a = (stF false l).bind fun S => (doF ps S (P30 O) a).map fun L => Lib.trimRightB L 32 := fun n => by
  induction n using Nat.strongRecOn with
  | _ n ih =>
    intro l O a hl hO ha
    have hmv : ∀ {m : UInt8} {r : List UInt8}, r.length < l.length → ¬ m.toNat = 39 → (if nextP ps a m < 0 then none else runF ps r O (nextP ps a m).toNat) = (stF false (m :: r)).bind fun S => (doF ps S (P30 O) a).map fun L => Lib.trimRightB L 32 := fun {m r} hr h39 => by
      have h30 : ¬ nextP ps a m < 0 → (nextP ps a m).toNat ≤ 30 := fun h => by
        rcases nextP_range ps a m with h1 | h1 <;> omega
      rw [stF]
      simp only [Bool.false_eq_true, if_false, h39]
      cases hq : mvQ m with
      | false => rw [if_pos (mv_none hq)]; simp
      | true =>
        simp only [if_true]
        by_cases hn : nextP ps a m < 0
        · rw [if_pos hn]
          cases stF false r <;> simp [doF, hn]
        · rw [if_neg hn, ih (n - 1) (by omega) r O _ (by omega) hO (h30 hn)]
          cases stF false r <;> simp [doF, hn]
    match l, hl with
    | [], _ => simp [runF, stF, doF, trim_P30 hO]
    | [m], _ =>
      rw [runF]
      by_cases h : m.toNat = 39
      · simp [h, stF]
      · rw [if_neg h]
        have := hmv (m := m) (r := []) (by simp) h
        rw [← this]
        rfl
    | m :: c :: r, hl =>
      simp only [List.length_cons] at hl
      rw [runF]
      by_cases h : m.toNat = 39
      · rw [if_pos h, stF]
        simp only [Bool.false_eq_true, if_false, h, if_true]
        rw [stF]
        simp only [if_true]
        cases hq : letQ c with
        | false => simp
        | true =>
          simp only [if_true]
          by_cases ha30 : a < 30
          · rw [if_pos ha30]
            have hl1 := padL_len O a
            have hg : (P30 O).getD a 0 = (padL O a).getD a 0 := by rw [← padL_P30 ha30 hO.1, getD_P30 (by rw [hl1]; omega)]
            by_cases hb : ((padL O a).getD a 0).toNat = 32
            · have hok := okO_set (c := c) hO ha30 hb (let_ne hq)
              rw [if_pos hb, ih (n - 1) (by omega) r _ _ (by omega) hok (by omega)]
              have e : P30 ((padL O a).set a c) = (P30 O).set a c := by rw [set_P30 _ (by rw [hl1]; omega), padL_P30 ha30 hO.1]
              rw [e]
              cases stF false r with
              | none => rfl
              | some S =>
                have hne : ¬ a = 30 := by omega
                simp only [Option.map_some, Option.bind_some, doF, if_true, if_neg hne, hg, if_pos hb]
            · rw [if_neg hb]
              have hne : ¬ a = 30 := by omega
              cases stF false r with
              | none => rfl
              | some S => simp only [Option.map_some, Option.bind_some, doF, if_true, if_neg hne, hg, if_neg hb, Option.map_none]
          · have he : a = 30 := by omega
            rw [if_neg ha30]
            cases stF false r <;> simp [doF, he]
      · rw [if_neg h]
        exact hmv (by simp) h
/-- All letters of what has been typed are letters. -/
theorem st_let : ∀ (n : Nat) (l : List UInt8) (m : Bool) (S : List Stp), l.length ≤ n → stF m l = some S → ∀ x ∈ S, (x.2 = true → letQ x.1 = true) ∧ (x.2 = false → mvQ x.1 = true)
  | n, [], m, S, _, h, x, hx => by
    cases m <;> simp [stF] at h
    subst h
    cases hx
  | 0, c :: r, m, S, hl, h, x, hx => by simp at hl
  | n + 1, c :: r, true, S, hl, h, x, hx => by
    rw [stF] at h
    simp only [if_true] at h
    split at h
    · rename_i hq
      cases hs : stF false r with
      | none => rw [hs] at h; cases h
      | some S' =>
        rw [hs] at h
        simp only [Option.map_some, Option.some.injEq] at h
        subst h
        rcases List.mem_cons.1 hx with rfl | h1
        · exact ⟨fun _ => hq, fun h => (by cases h)⟩
        · exact st_let n r false S' (by simp at hl; omega) hs x h1
    · cases h
  | n + 1, c :: r, false, S, hl, h, x, hx => by
    rw [stF] at h
    simp only [Bool.false_eq_true, if_false] at h
    split at h
    · exact st_let n r true S (by simp at hl; omega) h x hx
    · split at h
      · rename_i hq
        cases hs : stF false r with
        | none => rw [hs] at h; cases h
        | some S' =>
          rw [hs] at h
          simp only [Option.map_some, Option.some.injEq] at h
          subst h
          rcases List.mem_cons.1 hx with rfl | h1
          · exact ⟨fun h => (by cases h), fun _ => hq⟩
          · exact st_let n r false S' (by simp at hl; omega) hs x h1
      · cases h
theorem ru_do (ps : List Int) (s : ByteArray) (h1 : stB ps = true) : ruR ps s = if 200 < s.size then (ByteArray.empty, (7 : Int)) else match stF false s.data.toList with | none => (ByteArray.empty, 7) | some S => match doF ps S (List.replicate 30 32) 0 with | none => (ByteArray.empty, 7) | some L => (⟨(Lib.trimRightB L 32).toArray⟩, 0) := by
  unfold ruR
  rw [if_pos h1, run_do ps _ s.data.toList [] 0 (Nat.le_refl _) ⟨by simp, fun x hx => (by simp at hx)⟩ (by omega)]
  rw [show P30 [] = List.replicate 30 32 from rfl]
  split
  · rfl
  · cases stF false s.data.toList with
    | none => rfl
    | some S =>
      simp only [Option.bind_some]
      cases doF ps S (List.replicate 30 32) 0 <;> rfl
end Go.Proofs.YtcmmcgjpaabnoaaDoor
