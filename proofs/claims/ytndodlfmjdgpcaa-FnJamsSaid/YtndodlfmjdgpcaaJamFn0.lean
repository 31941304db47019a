/- What the law on jams asks of lists of numbers, and what is known of printed strokes. -/
import Derived.Test.YtndodlfmjdgpcaaPrint2
import Derived.Test.YtndodlfmjdgpcaaJamsC
import Derived.Test.YtndodlfmjdgpcaaMustWait0
namespace Go.Proofs.Ytndodlfmjdgpcaa
open Go.RowKit
set_option linter.unusedVariables false
set_option linter.unusedSimpArgs false

theorem has_any (A : Option Addr) (n c : Nat) (xs : List Int) (v : Int) (w : World) (h : Ints w A n xs) (hn : n ≤ 1048576) :
    Calls Try.prog 17 #[.slice A n c, .int .i64 v] w fun e w' => e = .returned (.bool (decide (v ∈ xs))) ∧ w = w' := by
  have hlen := h.1
  have hno : Hid (∀ k, k = n → (∀ j, j < k → xs[j]? ≠ some v) → decide (v ∈ xs) = false) := Lib.hid fun k hk hall => by
    rw [decide_eq_false_iff_not]
    intro hc
    obtain ⟨j, hj⟩ := List.getElem?_of_mem hc
    exact hall j (by have := (List.getElem?_eq_some_iff.1 hj).1; omega) hj
  have hyes : Hid (∀ k : Nat, xs[k]? = some v → decide (v ∈ xs) = true) := Lib.hid fun k hk => decide_eq_true (List.mem_of_getElem? hk)
  go_enter Try.func17, Try.ntmps17
  go_wp2
  go_loop [5] (fun i => ∃ k : Nat, k ≤ n ∧ i = .int .i64 k ∧ ∀ j, j < k → xs[j]? ≠ some v) (fun i => n - (intOf i).toNat)
  case atStart => exact ⟨0, by omega, rfl, fun j hj => absurd hj (by omega)⟩
  case round =>
    obtain ⟨k, hk, rfl, hall⟩ := hrel
    replace hall := Lib.hid hall
    by_cases hlt : k < n
    · obtain ⟨b, off, x, rfl, hb, hx, c0⟩ := int_at h hlt
      have hk0 : (0 : Int) ≤ (k : Int) := Int.natCast_nonneg _
      have hk1 : (k : Int) < (n : Int) := by omega
      by_cases he : x = v
      · have e1 : (x == v) = true := beq_iff_eq.2 he
        have hr := Lib.hid (hyes.out k (by rw [hx.out, he]))
        clear he
        go_wp2
        go_ret
        exact ⟨ret_bo hr.out.symm, rfl⟩
      · have e1 : (x == v) = false := beq_eq_false_iff_ne.2 he
        have hnx : Hid (∀ j, j < k + 1 → xs[j]? ≠ some v) := Lib.hid fun j hj => by
          rcases Nat.lt_or_ge j k with h' | h'
          · exact hall.out j h'
          · obtain rfl : j = k := by omega
            rw [hx.out]
            exact fun e => he (Option.some.inj e)
        clear he
        go_wp2
        go_round
        case rel => exact ⟨k + 1, by omega, by go_num, hnx.out⟩
        case measure => simp [intOf]; omega
    · have hr := Lib.hid (hno.out k (by omega) hall.out)
      go_wp2
      go_ret
      exact ⟨ret_bo hr.out.symm, rfl⟩
set_option maxHeartbeats 800000 in
theorem rises_any (A : Option Addr) (n c : Nat) (xs : List Int) (m : Int) (w : World) (h : Ints w A n xs) (hn : n ≤ 1048576) (hin : ∀ (k : Nat) (x : Int), xs[k]? = some x → 0 ≤ x ∧ x < m) (hup : ∀ (k : Nat) (x y : Int), xs[k]? = some x → xs[k + 1]? = some y → x < y) :
    Calls Try.prog 16 #[.slice A n c, .int .i64 m] w fun e w' => e = .returned (.bool true) ∧ Below w.heap.size w w' := by
  replace hin := Lib.hid hin
  replace hup := Lib.hid hup
  go_enter Try.func16, Try.ntmps16
  go_wp2
  go_loopw [5] (fun i wr => ∃ k : Nat, k ≤ n ∧ i = .int .i64 k ∧ Below w.heap.size w wr) (fun i _ => n - (intOf i).toNat)
  case atStart => exact ⟨0, by omega, rfl, Below.refl _ _⟩
  case round =>
    obtain ⟨k, hk, rfl, hbw⟩ := hrel
    by_cases hlt : k < n
    · obtain ⟨b, off, x, rfl, hb, hx, c0⟩ := int_at (h.below hbw) hlt
      obtain ⟨q0, q1⟩ := hin.out k x hx.out
      have hk0 : (0 : Int) ≤ (k : Int) := Int.natCast_nonneg _
      have hk1 : (k : Int) < (n : Int) := by omega
      have g1 : decide (x < 0) = false := decide_eq_false (by omega)
      have g2 : decide (m ≤ x) = false := decide_eq_false (by omega)
      by_cases hz : 0 < k
      · obtain ⟨b', off', y, hAe, hb', hy, d0⟩ := int_at (h.below hbw) (show k - 1 < n by omega)
        cases hAe
        have hyx := hup.out (k - 1) y x hy.out (by rw [show k - 1 + 1 = k by omega]; exact hx.out)
        have g3 : decide ((0 : Int) < (k : Int)) = true := decide_eq_true (by omega)
        have g4 : decide (x ≤ y) = false := decide_eq_false (by omega)
        have hkn : ((k : Int) - 1).toNat = k - 1 := by omega
        have hw1 : IntKind.i64.wrap ((k : Int) - 1) = (k : Int) - 1 := IntWalk.i64_in _ (by omega)
        have hi0 : (0 : Int) ≤ (k : Int) - 1 := by omega
        have hi1 : (k : Int) - 1 < (n : Int) := by omega
        go_wp2_with fail
        go_quiet (fail)
        go_wp2
        go_roundw
        case rel => exact ⟨k + 1, by omega, by go_num, below_drewN hbw _⟩
        case measure => simp [intOf]; omega
      · have g3 : decide ((0 : Int) < (k : Int)) = false := decide_eq_false (by omega)
        go_wp2_with fail
        go_quiet (fail)
        go_wp2
        go_roundw
        case rel => exact ⟨k + 1, by omega, by go_num, below_drewN hbw _⟩
        case measure => simp [intOf]; omega
    · obtain rfl : k = n := by omega
      go_wp2
      go_ret
      exact ⟨rfl, hbw⟩
theorem long_any (A B : Option Addr) (n c m d : Nat) (w : World) (hn : n ≤ maxLen) (hm : m ≤ maxLen) (v : Bool) (hv : (decide (3000 < n) || decide (3000 < m)) = v) :
    Calls Try.prog 10 #[.slice A n c, .slice B m d] w fun e w' => e = .returned (.bool v) ∧ w = w' := by
  unfold maxLen at hn hm
  by_cases h1 : 3000 < n
  · have g1 : decide ((3000 : Int) < (n : Int)) = true := decide_eq_true (by omega)
    have hr : Hid (v = true) := Lib.hid (by rw [← hv, decide_eq_true h1, Bool.true_or])
    clear hv
    go_enter Try.func10, Try.ntmps10
    go_wp2
    go_ret
    exact ⟨ret_bo hr.out.symm, rfl⟩
  · have g1 : decide ((3000 : Int) < (n : Int)) = false := decide_eq_false (by omega)
    have hr : Hid (v = decide ((3000 : Int) < (m : Int))) := Lib.hid (by
      rw [← hv, decide_eq_false h1, Bool.false_or]
      apply decide_eq_decide.2
      omega)
    clear hv
    go_enter Try.func10, Try.ntmps10
    go_wp2
    go_ret
    exact ⟨ret_bo hr.out.symm, rfl⟩

/-! What is printed. -/
theorem print_mono {b : BasketD} {xs : List StrokeD} {j k : Nat} (h : j ∈ printAt b xs k) : j ∈ printAt b xs (k + 1) := by
  rw [printAt]
  split
  · split
    · exact h
    · exact List.mem_append_left _ h
  · exact h
theorem print_le {b : BasketD} {xs : List StrokeD} {j k : Nat} : ∀ {m : Nat}, k ≤ m → j ∈ printAt b xs k → j ∈ printAt b xs m := by
  intro m hkm h
  induction m with
  | zero =>
    obtain rfl : k = 0 := by omega
    exact h
  | succ m ih =>
    rcases Nat.lt_or_ge m k with h' | h'
    · obtain rfl : k = m + 1 := by omega
      exact h
    · exact print_mono (ih h')
theorem print_back {b : BasketD} {xs : List StrokeD} {j k : Nat} (hj : j < k) : ∀ {m : Nat}, k ≤ m → j ∈ printAt b xs m → j ∈ printAt b xs k := by
  intro m hkm h
  induction m with
  | zero => omega
  | succ m ih =>
    rcases Nat.lt_or_ge m k with h' | h'
    · obtain rfl : k = m + 1 := by omega
      exact h
    · refine ih h' ?_
      rw [printAt] at h
      split at h
      · split at h
        · exact h
        · rcases List.mem_append.1 h with h | h
          · exact h
          · rw [List.mem_singleton] at h
            omega
      · exact h
/-- A stroke is printed just if none of the printed ones before jams with it. -/
theorem print_iff {b : BasketD} {xs : List StrokeD} {k m : Nat} {s : StrokeD} (hs : xs[k]? = some s) (hk : k < m) : k ∈ printAt b xs m ↔ (printAt b xs k).any (jamX b xs s) = false := by
  have h1 : k ∈ printAt b xs m ↔ k ∈ printAt b xs (k + 1) := ⟨print_back (by omega) (by omega), print_le (by omega)⟩
  rw [h1]
  cases hany : (printAt b xs k).any (jamX b xs s) with
  | true =>
    rw [printAt_yes hs hany]
    exact ⟨fun h => absurd ((printAt_lt b xs k).1 k h) (by omega), fun h => by cases h⟩
  | false =>
    rw [printAt_no hs hany]
    simp
theorem toI_mem {l : List Nat} {k : Nat} : decide ((k : Int) ∈ toI l) = decide (k ∈ l) := by
  apply decide_eq_decide.2
  unfold toI
  rw [List.mem_map]
  constructor
  · rintro ⟨j, hj, e⟩
    have : j = k := by omega
    exact this ▸ hj
  · exact fun h => ⟨k, h, rfl⟩
theorem print_up {b : BasketD} {xs : List StrokeD} : ∀ (m : Nat), (printAt b xs m).Pairwise (· < ·)
  | 0 => List.Pairwise.nil
  | m + 1 => by
    have ih := print_up (b := b) (xs := xs) m
    rw [printAt]
    split
    · split
      · exact ih
      · rw [List.pairwise_append]
        refine ⟨ih, List.pairwise_singleton _ _, fun a ha c hc => ?_⟩
        rw [List.mem_singleton] at hc
        rw [hc]
        exact (printAt_lt b xs m).1 a ha
    · exact ih
theorem print_in {b : BasketD} {xs : List StrokeD} {m k : Nat} {x : Int} (h : (toI (printAt b xs m))[k]? = some x) : 0 ≤ x ∧ x < (m : Int) := by
  obtain ⟨j, hj, rfl⟩ := toI_at h
  have := (printAt_lt b xs m).1 j (List.mem_of_getElem? hj)
  omega
theorem print_rise {b : BasketD} {xs : List StrokeD} {m k : Nat} {x y : Int} (h1 : (toI (printAt b xs m))[k]? = some x) (h2 : (toI (printAt b xs m))[k + 1]? = some y) : x < y := by
  obtain ⟨i, hi, rfl⟩ := toI_at h1
  obtain ⟨j, hj, rfl⟩ := toI_at h2
  obtain ⟨l1, e1⟩ := List.getElem?_eq_some_iff.1 hi
  obtain ⟨l2, e2⟩ := List.getElem?_eq_some_iff.1 hj
  have := List.pairwise_iff_getElem.1 (print_up (b := b) (xs := xs) m) k (k + 1) l1 l2 (by omega)
  rw [e1, e2] at this
  omega
theorem print_zero {b : BasketD} {xs : List StrokeD} {m : Nat} (h : 0 < m) (hx : 0 < xs.length) : 0 ∈ printAt b xs m := (print_iff (List.getElem?_eq_getElem hx) h).2 rfl
/-- The printed ones before y + 1 that jam. -/
theorem any_next {b : BasketD} {xs : List StrokeD} {y : Nat} {s t : StrokeD} (ht : xs[y]? = some t) {m : Nat} (hy : y < m) : (printAt b xs (y + 1)).any (jamX b xs s) = ((printAt b xs y).any (jamX b xs s) || (decide (y ∈ printAt b xs m) && jamB b t s)) := by
  have hi := print_iff (b := b) ht hy
  cases hany : (printAt b xs y).any (jamX b xs t) with
  | true =>
    rw [printAt_yes ht hany, decide_eq_false (fun h => by rw [hi, hany] at h; cases h), Bool.false_and, Bool.or_false]
  | false =>
    rw [printAt_no ht hany, List.any_append, decide_eq_true (hi.2 hany), Bool.true_and, List.any_cons, List.any_nil, Bool.or_false, jamX_of ht]
theorem scan_none_J {b : BasketD} {s : StrokeD} : ∀ {l : List StrokeD} {k : Nat}, scanJ b s k l = none ↔ cntJ b s l = 0
  | [], k => by simp [scanJ, cntJ]
  | x :: r, k => by
    rw [scanJ, cntJ]
    cases hj : jamB b x s with
    | true => simp
    | false =>
      simp only [Bool.false_eq_true, if_false, Nat.zero_add]
      exact scan_none_J
theorem scan_none_I {b : BasketD} {xs : List StrokeD} : ∀ {l : List StrokeD} {i : Nat}, scanI b xs i l = none ↔ cntI b xs i l = 0
  | [], i => by simp [scanI, cntI]
  | x :: r, i => by
    rw [scanI, cntI]
    have h1 := scan_none_J (b := b) (s := x) (l := xs.take i) (k := 0)
    have h2 := scan_none_I (b := b) (xs := xs) (l := r) (i := i + 1)
    cases hs : scanJ b x 0 (xs.take i) with
    | none =>
      simp only
      have := h1.1 hs
      rw [h2]
      omega
    | some k =>
      simp only
      have : ¬ cntJ b x (xs.take i) = 0 := fun h => by rw [h1.2 h] at hs; cases hs
      constructor
      · intro h; cases h
      · intro h; omega
theorem cntI_le {b : BasketD} {xs : List StrokeD} : ∀ {l : List StrokeD} {i : Nat}, cntI b xs i l ≤ l.length * xs.length
  | [], i => by simp [cntI]
  | x :: r, i => by
    rw [cntI, List.length_cons, Nat.add_mul, Nat.one_mul]
    have h1 := cntJ_le b x (xs.take i)
    have h2 := cntI_le (b := b) (xs := xs) (l := r) (i := i + 1)
    have h3 : (xs.take i).length ≤ xs.length := by rw [List.length_take]; omega
    omega
end Go.Proofs.Ytndodlfmjdgpcaa
