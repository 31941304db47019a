/- The presses for one letter, out of the program's keyboard. -/
import Derived.Test.YtndodlfmjdgpcaaKbPress
namespace Go.Proofs.Ytndodlfmjdgpcaa
open Go.RowKit Go.ChangeMaps Go.MapKept
set_option linter.unusedVariables false
set_option linter.unusedSimpArgs false

theorem val_over_acc (s : ByteArray) : ∀ as_ : List AccentD, valOf s (overL as_) = (accOf s as_).map fun a => .agg #[.string a.mark, .string a.letter]
  | [] => rfl
  | a :: l => by
    have ih := val_over_acc s l
    unfold overL at ih ⊢
    simp only [List.map_cons, valOf, accOf]
    by_cases h : s = a.made
    · rw [if_pos h, if_pos h.symm]
      rfl
    · rw [if_neg h, if_neg (fun e => h e.symm), ih]
theorem accOf_mem {s : ByteArray} {a : AccentD} : ∀ as_ : List AccentD, accOf s as_ = some a → a ∈ as_ ∧ a.made = s
  | [], h => by cases h
  | b :: l, h => by
    rw [accOf] at h
    split at h
    · rename_i e
      cases h
      exact ⟨List.mem_cons_self .., e⟩
    · have := accOf_mem l h
      exact ⟨List.mem_cons_of_mem _ this.1, this.2⟩
theorem okAccs_mem {S : List (ByteArray × SpotD)} {a : AccentD} : ∀ (as_ bs : List AccentD), okAccs S bs as_ = true → a ∈ as_ → okAcc S a = true
  | [], _, _, h => by cases h
  | b :: l, bs, hv, h => by
    rw [okAccs, Bool.and_eq_true, Bool.and_eq_true] at hv
    rcases List.mem_cons.1 h with rfl | h'
    · exact hv.1.1
    · exact okAccs_mem l _ hv.2 h'
/-- An accent of a valid keyboard: its mark is a dead key's, its letter none's, and what is made is a letter on no key. -/
theorem acc_parts {ks : List KeyD} {as_ : List AccentD} {s : ByteArray} {a : AccentD} (hv : validKb ks as_ = true) (ha : accOf s as_ = some a) :
    ∃ p q, look a.mark (spots 0 ks) = some p ∧ p.dead = true ∧ look a.letter (spots 0 ks) = some q ∧ q.dead = false ∧ look s (spots 0 ks) = none := by
  obtain ⟨hm, rfl⟩ := accOf_mem as_ ha
  rw [validKb, Bool.and_eq_true, Bool.and_eq_true, Bool.and_eq_true] at hv
  have h := okAccs_mem as_ [] hv.1.1.2 hm
  rw [okAcc, Bool.and_eq_true, Bool.and_eq_true, Bool.and_eq_true] at h
  obtain ⟨⟨⟨h1, h2⟩, h3⟩, h4⟩ := h
  cases e1 : look a.mark (spots 0 ks) with
  | none => rw [e1] at h1; cases h1
  | some p =>
    cases e2 : look a.letter (spots 0 ks) with
    | none => rw [e2] at h2; cases h2
    | some q =>
      rw [e1] at h1
      rw [e2] at h2
      refine ⟨p, q, rfl, h1, rfl, by simpa using h2, ?_⟩
      simpa using h3
theorem field_spot (a : Int) (b c : Bool) (w : World) : (Instr.field 124 (.agg #[.int .i64 a, .bool b, .bool c]) 0).run Try.prog w = .ok (.agg #[.int .i64 a, .bool b]) w := by kernel_rfl
theorem press_at1 {w : World} {g base : Nat} {a : Int} {b : Bool} (hg : g = w.heap.size) (hb : base ≤ g) : OPresses (w.alloc (.cells #[.int .i64 a, .bool b] 53)) base (some ⟨g, 0, none⟩) 1 [⟨a, b⟩] := by
  subst hg
  exact (press_row1 w a b).mono hb
theorem press_at2 {w : World} {g base : Nat} {a c : Int} {b d : Bool} (hg : g = w.heap.size) (hb : base ≤ g) : OPresses (w.alloc (.cells #[.int .i64 a, .bool b, .int .i64 c, .bool d] 53)) base (some ⟨g, 0, none⟩) 2 [⟨a, b⟩, ⟨c, d⟩] := by
  subst hg
  exact (press_row2 w a b c d).mono hb
/-- A letter can be typed. -/
def canB (ks : List KeyD) (as_ : List AccentD) (s : ByteArray) : Bool := !(pressesL ks as_ s).isEmpty

set_option maxRecDepth 100000 in
set_option maxHeartbeats 3200000 in
theorem presses_impl (r1 r2 r3 : Nat) (ks : List KeyD) (as_ : List AccentD) (s : ByteArray) (w : World) (h : KbIs w r1 r2 r3 ks as_) (hv : validKb ks as_ = true) (hs : s.size ≤ 1048576) :
    Calls Try.prog 78 #[.agg #[.map (some r1), .map (some r2), .map (some r3)], .string s] w fun e w' => ∃ A' n' c', e = .returned (.tuple #[.slice A' n' c', .bool (canB ks as_ s)]) ∧ OPresses w' w.heap.size A' n' (pressesL ks as_ s) ∧ Below w.heap.size w w' := by
  cases hl : look s (spots 0 ks) with
  | some p =>
    have e1 : Hid ((valOf s (spotL (spots 0 ks))).getD (.agg #[.int .i64 0, .bool false, .bool false]) = .agg #[.int .i64 (p.idx : Int), .bool p.shift, .bool p.dead]) := Lib.hid (by rw [val_spot, hl]; rfl)
    have k1 : Hid ((valOf s (spotL (spots 0 ks))).isSome = true) := Lib.hid (by rw [val_spot, hl]; rfl)
    cases hd : p.dead with
    | false =>
      rw [hd] at e1
      have hacc : Hid (pressesL ks as_ s = [foundP (some p)]) := Lib.hid (by rw [pressesL, hl]; simp [hd])
      have hcan : Hid (canB ks as_ s = true) := Lib.hid (by rw [canB, hacc.out]; rfl)
      rw [hcan.out]
      clear hv hl hd
      have e2 := Lib.hid True.intro
      have k2 := Lib.hid True.intro
      go_enter Try.func78, Try.ntmps78
      go_wp2_with (first | (at_lookup; refine wpList_look_is rfl _ _ _ 9 124 rfl strKey Try.underlying95 (zero_spot _) rfl (by repeat (first | exact h.1 | refine MapIs.on ?_ _)) s rfl e1.out k1.out ?_) | (at_lookup; refine wpList_look_is rfl _ _ _ 9 109 rfl strKey Try.underlying97 (zero_over _) rfl (by repeat (first | exact h.2.2 | refine MapIs.on ?_ _)) s rfl e2.out k2.out ?_))
      go_ret2
      refine ⟨_, _, _, rfl, ?_, by repeat (first | exact Below.refl _ _ | refine Below.alloc ?_ (by first | omega | (simp; omega) | (simp; done)) _)⟩
      rw [hacc.out]
      exact press_at1 (by simp) (by omega)
    | true =>
      rw [hd] at e1
      cases ha : accOf s as_ with
      | some a =>
        obtain ⟨_, _, _, _, _, _, h1⟩ := acc_parts hv ha
        rw [hl] at h1
        cases h1
      | none =>
        have hacc : Hid (pressesL ks as_ s = []) := Lib.hid (by rw [pressesL, hl]; simp [hd, accPs_none ha])
        have hcan : Hid (canB ks as_ s = false) := Lib.hid (by rw [canB, hacc.out]; rfl)
        have e2 : Hid ((valOf s (overL as_)).getD (.agg #[.string ByteArray.empty, .string ByteArray.empty]) = .agg #[.string ByteArray.empty, .string ByteArray.empty]) := Lib.hid (by rw [val_over_acc, ha]; rfl)
        have k2 : Hid ((valOf s (overL as_)).isSome = false) := Lib.hid (by rw [val_over_acc, ha]; rfl)
        rw [hcan.out]
        clear hv hl hd ha
        go_enter Try.func78, Try.ntmps78
        go_wp2_with (first | (at_lookup; refine wpList_look_is rfl _ _ _ 9 124 rfl strKey Try.underlying95 (zero_spot _) rfl (by repeat (first | exact h.1 | refine MapIs.on ?_ _)) s rfl e1.out k1.out ?_) | (at_lookup; refine wpList_look_is rfl _ _ _ 9 109 rfl strKey Try.underlying97 (zero_over _) rfl (by repeat (first | exact h.2.2 | refine MapIs.on ?_ _)) s rfl e2.out k2.out ?_))
        go_ret2
        exact ⟨none, 0, 0, rfl, hacc.out ▸ ORow.nil_, by repeat (first | exact Below.refl _ _ | refine Below.alloc ?_ (by first | omega | (simp; omega) | (simp; done)) _)⟩
  | none =>
    have e1 : Hid ((valOf s (spotL (spots 0 ks))).getD (.agg #[.int .i64 0, .bool false, .bool false]) = .agg #[.int .i64 0, .bool false, .bool false]) := Lib.hid (by rw [val_spot, hl]; rfl)
    have k1 : Hid ((valOf s (spotL (spots 0 ks))).isSome = false) := Lib.hid (by rw [val_spot, hl]; rfl)
    cases ha : accOf s as_ with
    | some a =>
      obtain ⟨p, q, hp, _, hq, _, _⟩ := acc_parts hv ha
      have hacc : Hid (pressesL ks as_ s = [foundP (some p), foundP (some q)]) := Lib.hid (by rw [pressesL, hl]; simp [accPs_of ha, hp, hq])
      have hcan : Hid (canB ks as_ s = true) := Lib.hid (by rw [canB, hacc.out]; rfl)
      have e2 : Hid ((valOf s (overL as_)).getD (.agg #[.string ByteArray.empty, .string ByteArray.empty]) = .agg #[.string a.mark, .string a.letter]) := Lib.hid (by rw [val_over_acc, ha]; rfl)
      have k2 : Hid ((valOf s (overL as_)).isSome = true) := Lib.hid (by rw [val_over_acc, ha]; rfl)
      have e3 : Hid ((valOf a.mark (spotL (spots 0 ks))).getD (.agg #[.int .i64 0, .bool false, .bool false]) = .agg #[.int .i64 (p.idx : Int), .bool p.shift, .bool p.dead]) := Lib.hid (by rw [val_spot, hp]; rfl)
      have e4 : Hid ((valOf a.letter (spotL (spots 0 ks))).getD (.agg #[.int .i64 0, .bool false, .bool false]) = .agg #[.int .i64 (q.idx : Int), .bool q.shift, .bool q.dead]) := Lib.hid (by rw [val_spot, hq]; rfl)
      rw [hcan.out]
      clear hv hl ha hp hq
      have hfd := field_spot
      go_enter Try.func78, Try.ntmps78
      go_wp2_with (first | (at_lookup; refine wpList_look_is rfl _ _ _ 9 124 rfl strKey Try.underlying95 (zero_spot _) rfl (by repeat (first | exact h.1 | refine MapIs.on ?_ _)) s rfl e1.out k1.out ?_) | (at_lookup; refine wpList_look_is rfl _ _ _ 9 109 rfl strKey Try.underlying97 (zero_over _) rfl (by repeat (first | exact h.2.2 | refine MapIs.on ?_ _)) s rfl e2.out k2.out ?_) | (at_lookup; refine wpList_look1_is rfl _ _ _ 9 124 rfl strKey Try.underlying95 (zero_spot _) rfl (by repeat (first | exact h.1 | refine MapIs.on ?_ _)) a.mark rfl e3.out ?_) | (at_lookup; refine wpList_look1_is rfl _ _ _ 9 124 rfl strKey Try.underlying95 (zero_spot _) rfl (by repeat (first | exact h.1 | refine MapIs.on ?_ _)) a.letter rfl e4.out ?_))
      go_ret2
      refine ⟨_, _, _, rfl, ?_, by repeat (first | exact Below.refl _ _ | refine Below.alloc ?_ (by first | omega | (simp; omega) | (simp; done)) _)⟩
      rw [hacc.out]
      exact press_at2 (by simp) (by omega)
    | none =>
      have hacc : Hid (pressesL ks as_ s = []) := Lib.hid (by rw [pressesL, hl]; simp [accPs_none ha])
      have hcan : Hid (canB ks as_ s = false) := Lib.hid (by rw [canB, hacc.out]; rfl)
      have e2 : Hid ((valOf s (overL as_)).getD (.agg #[.string ByteArray.empty, .string ByteArray.empty]) = .agg #[.string ByteArray.empty, .string ByteArray.empty]) := Lib.hid (by rw [val_over_acc, ha]; rfl)
      have k2 : Hid ((valOf s (overL as_)).isSome = false) := Lib.hid (by rw [val_over_acc, ha]; rfl)
      rw [hcan.out]
      clear hv hl ha
      go_enter Try.func78, Try.ntmps78
      go_wp2_with (first | (at_lookup; refine wpList_look_is rfl _ _ _ 9 124 rfl strKey Try.underlying95 (zero_spot _) rfl (by repeat (first | exact h.1 | refine MapIs.on ?_ _)) s rfl e1.out k1.out ?_) | (at_lookup; refine wpList_look_is rfl _ _ _ 9 109 rfl strKey Try.underlying97 (zero_over _) rfl (by repeat (first | exact h.2.2 | refine MapIs.on ?_ _)) s rfl e2.out k2.out ?_))
      go_ret2
      exact ⟨none, 0, 0, rfl, hacc.out ▸ ORow.nil_, by repeat (first | exact Below.refl _ _ | refine Below.alloc ?_ (by first | omega | (simp; omega) | (simp; done)) _)⟩

theorem can_impl (r1 r2 r3 : Nat) (ks : List KeyD) (as_ : List AccentD) (s : ByteArray) (w : World) (h : KbIs w r1 r2 r3 ks as_) (hv : validKb ks as_ = true) (hs : s.size ≤ 1048576) :
    Calls Try.prog 97 #[.agg #[.map (some r1), .map (some r2), .map (some r3)], .string s] w fun e w' => e = .returned (.bool (canB ks as_ s)) ∧ Below w.heap.size w w' := by
  have hp := fun W (hW : KbIs W r1 r2 r3 ks as_) => presses_impl r1 r2 r3 ks as_ s W hW hv hs
  replace hp := Lib.hid hp
  clear hv
  go_enter Try.func97, Try.ntmps97
  go_wp2_with fail
  refine (hp.out _ (h.below (below_a1 _ _))).mono ?_
  rintro e w1 ⟨A', n', c', rfl, _, hb⟩
  go_wp2
  go_ret
  exact ⟨rfl, (below_a1 _ _).step hb⟩
end Go.Proofs.Ytndodlfmjdgpcaa
