/- Corrections: the model's plans, lines and wrong places. -/
import Derived.Test.YtomnnhmhmehdjaaCo0
import Derived.Test.YtomnnhmhmehdjaaOIn
namespace Go.Proofs.Ytomnnhmhmehdjaa
open Go.RowKit Go.ChangeShapes Go.WideShapes Go.Deep
set_option linter.unusedVariables false
set_option linter.unusedSimpArgs false

theorem ret_u12 {a b : Int} (h : a = b) : Ending.returned (.int .u8 a) = .returned (.int .u8 b) := by rw [h]
theorem all12 {s : ByteArray} {p : UInt8 → Bool} (h : ∀ k (hk : k < s.size), p (s[k]'hk) = true) : s.data.toList.all p = true := List.all_eq_true.2 fun x hx => by
  obtain ⟨k, hk⟩ := List.getElem?_of_mem hx
  have hk' : k < s.size := by
    have := (List.getElem?_eq_some_iff.1 hk).1
    simpa using this
  rw [byte_of hk'] at hk
  cases hk
  exact h k hk'
theorem all12_no {s : ByteArray} {p : UInt8 → Bool} {k : Nat} (hk : k < s.size) (h : p (s[k]'hk) = false) : s.data.toList.all p = false := by
  rw [List.all_eq_false]
  exact ⟨_, List.mem_of_getElem? (byte_of hk), by rw [h]; simp⟩
set_option maxHeartbeats 1600000 in
theorem isplan12 (s : ByteArray) {v : Bool} (hv : planB s = v) (w : World) (hs : s.size ≤ maxLen) :
    Calls Try.prog 65 #[.string s] w fun e w' => e = .returned (.bool v) ∧ w = w' := by
  unfold maxLen at hs
  have hno : Hid (∀ k (hk : k < s.size), planC (s[k]'hk) = false → v = false) := Lib.hid fun k hk h => by rw [← hv, planB, all12_no hk h, Bool.false_and]
  have hyes : Hid ((∀ k (hk : k < s.size), planC (s[k]'hk) = true) → v = decide ((s.size : Int) ≤ 60)) := Lib.hid fun h => by
    rw [← hv, planB, all12 h, Bool.true_and]
    exact decide_eq_decide.2 (by omega)
  clear hv
  go_enter Try.func65, Try.ntmps65
  go_wp2
  go_loop [3] (fun i => ∃ k : Nat, k ≤ s.size ∧ i = .int .i64 k ∧ ∀ j (hj : j < s.size), j < k → planC (s[j]'hj) = true) (fun i => s.size - (intOf i).toNat)
  case atStart => exact ⟨0, by omega, rfl, fun j hj h => absurd h (by omega)⟩
  case round =>
    obtain ⟨k, hk, rfl, hall⟩ := hrel
    replace hall := Lib.hid hall
    by_cases hlt : k < s.size
    · have hstep : planC (s[k]'hlt) = true → Hid (∀ j (hj : j < s.size), j < k + 1 → planC (s[j]'hj) = true) := fun hp => Lib.hid fun j hj h => by
        rcases Nat.lt_or_ge j k with h' | h'
        · exact hall.out j hj h'
        · obtain rfl : j = k := by omega
          exact hp
      by_cases h46 : (s[k]'hlt).toNat = 46
      · have y46 : (((s[k]'hlt).toNat : Int) == 46) = true := beq_iff_eq.2 (by omega)
        have z46 : (((s[k]'hlt).toNat : Int) != 46) = false := by rw [bne, y46]; rfl
        have x46 : ((s[k]'hlt).toNat == 46) = true := beq_iff_eq.2 h46
        have hnext := hstep (by simp only [planC, decide_eq_true h46, Bool.true_or, Bool.or_true])
        clear h46 hstep
        go_wp2
        go_round
        case rel => exact ⟨k + 1, by omega, by go_num, hnext.out⟩
        case measure => simp [intOf]; omega
      · have y46 : (((s[k]'hlt).toNat : Int) == 46) = false := beq_eq_false_iff_ne.2 (by omega)
        have z46 : (((s[k]'hlt).toNat : Int) != 46) = true := by rw [bne, y46]; rfl
        have x46 : ((s[k]'hlt).toNat == 46) = false := beq_eq_false_iff_ne.2 h46
        by_cases h43 : (s[k]'hlt).toNat = 43
        · have y43 : (((s[k]'hlt).toNat : Int) == 43) = true := beq_iff_eq.2 (by omega)
          have z43 : (((s[k]'hlt).toNat : Int) != 43) = false := by rw [bne, y43]; rfl
          have x43 : ((s[k]'hlt).toNat == 43) = true := beq_iff_eq.2 h43
          have hnext := hstep (by simp only [planC, decide_eq_true h43, Bool.true_or, Bool.or_true])
          clear h46 h43 hstep
          go_wp2
          go_round
          case rel => exact ⟨k + 1, by omega, by go_num, hnext.out⟩
          case measure => simp [intOf]; omega
        · have y43 : (((s[k]'hlt).toNat : Int) == 43) = false := beq_eq_false_iff_ne.2 (by omega)
          have z43 : (((s[k]'hlt).toNat : Int) != 43) = true := by rw [bne, y43]; rfl
          have x43 : ((s[k]'hlt).toNat == 43) = false := beq_eq_false_iff_ne.2 h43
          by_cases h35 : (s[k]'hlt).toNat = 35
          · have y35 : (((s[k]'hlt).toNat : Int) == 35) = true := beq_iff_eq.2 (by omega)
            have z35 : (((s[k]'hlt).toNat : Int) != 35) = false := by rw [bne, y35]; rfl
            have x35 : ((s[k]'hlt).toNat == 35) = true := beq_iff_eq.2 h35
            have hnext := hstep (by simp only [planC, decide_eq_true h35, Bool.true_or, Bool.or_true])
            clear h46 h43 h35 hstep
            go_wp2
            go_round
            case rel => exact ⟨k + 1, by omega, by go_num, hnext.out⟩
            case measure => simp [intOf]; omega
          · have y35 : (((s[k]'hlt).toNat : Int) == 35) = false := beq_eq_false_iff_ne.2 (by omega)
            have z35 : (((s[k]'hlt).toNat : Int) != 35) = true := by rw [bne, y35]; rfl
            have x35 : ((s[k]'hlt).toNat == 35) = false := beq_eq_false_iff_ne.2 h35
            have hr := Lib.hid (hno.out k hlt (by unfold planC; rw [decide_eq_false h46, decide_eq_false h43, decide_eq_false h35]; rfl))
            clear h46 h43 h35 hstep
            go_wp2
            go_ret
            exact ⟨ret_bo hr.out.symm, rfl⟩
    · have hr := Lib.hid (hyes.out fun j hj => hall.out j hj (by omega))
      go_wp2
      go_ret
      exact ⟨ret_bo hr.out.symm, rfl⟩
set_option maxHeartbeats 1600000 in
theorem erased12 (s : ByteArray) {v : Int} (hv : (erL s.data.toList : Int) = v) (w : World) (hs : s.size ≤ maxLen) :
    Calls Try.prog 66 #[.string s] w fun e w' => e = .returned (.int .i64 v) ∧ w = w' := by
  unfold maxLen at hs
  have hlen := Lib.hid (show s.data.toList.length = s.size from Array.length_toList)
  have hv0 := Lib.hid hv
  clear hv
  go_enter Try.func66, Try.ntmps66
  go_wp2
  go_loop [3, 4] (fun e i => ∃ k : Nat, k ≤ s.size ∧ i = .int .i64 k ∧ e = .int .i64 ((erL (s.data.toList.take k) : Nat) : Int)) (fun _ i => s.size - (intOf i).toNat)
  case atStart => exact ⟨0, by omega, rfl, rfl⟩
  case round =>
    obtain ⟨k, hk, rfl, rfl⟩ := hrel
    by_cases hlt : k < s.size
    · have hst := Lib.hid (erL_next (byte_of hlt))
      have hle := erL_le (s.data.toList.take k)
      rw [List.length_take, hlen.out] at hle
      have hle2 : erL (s.data.toList.take k) ≤ k := by omega
      clear hle
      generalize erL (s.data.toList.take k) = m at *
      have s1 : IntKind.i64.wrap ((m : Int) + 1) = ((m + 1 : Nat) : Int) := by rw [IntWalk.i64_in _ (by omega)]; omega
      by_cases h35 : (s[k]'hlt).toNat = 35
      · have y35 : (((s[k]'hlt).toNat : Int) == 35) = true := beq_iff_eq.2 (by omega)
        have z35 : (((s[k]'hlt).toNat : Int) != 35) = false := by rw [bne, y35]; rfl
        have x35 : ((s[k]'hlt).toNat == 35) = true := beq_iff_eq.2 h35
        have hq := Lib.hid (show erL (s.data.toList.take (k + 1)) = m + 1 by rw [hst.out, if_pos h35])
        clear h35 hst
        go_wp2
        go_round
        case rel => exact ⟨k + 1, by omega, by go_num, (by rw [hq.out] <;> go_num)⟩
        case measure => simp [intOf]; omega
      · have y35 : (((s[k]'hlt).toNat : Int) == 35) = false := beq_eq_false_iff_ne.2 (by omega)
        have z35 : (((s[k]'hlt).toNat : Int) != 35) = true := by rw [bne, y35]; rfl
        have x35 : ((s[k]'hlt).toNat == 35) = false := beq_eq_false_iff_ne.2 h35
        have hq := Lib.hid (show erL (s.data.toList.take (k + 1)) = m by rw [hst.out, if_neg h35]; rfl)
        clear h35 hst
        go_wp2
        go_round
        case rel => exact ⟨k + 1, by omega, by go_num, (by rw [hq.out] <;> go_num)⟩
        case measure => simp [intOf]; omega
    · have hr := Lib.hid (show ((erL (s.data.toList.take k) : Nat) : Int) = v by rw [← hv0.out, List.take_of_length_le (by rw [hlen.out]; omega)])
      go_wp2
      go_ret
      exact ⟨ret_i64 hr.out, rfl⟩
theorem ei12_spec (s : ByteArray) (w : World) (hs : s.size ≤ 1048576) :
    Calls Try.prog 24 #[.string s] w fun e w' => e = .returned (.tuple #[.int .i64 (eiR s).1, .int .i64 (eiR s).2]) ∧ Below w.heap.size w w' := by
  generalize hr : eiR s = r
  replace hr := Lib.hid hr.symm
  have hsm : s.size ≤ maxLen := by unfold maxLen; omega
  cases h1 : planB s with
  | false =>
    have hres : Hid (r = (0, 7)) := Lib.hid (by rw [hr.out, eiR, h1]; rfl)
    have hc := Lib.hid (fun W => isplan12 s h1 W hsm)
    clear hr h1
    go_enter Try.func24, Try.ntmps24
    go_wp2_with fail
    refine (hc.out _).mono ?_
    rintro e w1 ⟨rfl, rfl⟩
    go_wp2
    go_ret2
    exact ⟨ret8_2 hres.out, Below.refl _ _⟩
  | true =>
    have hres : Hid (r = ((erL s.data.toList : Int), 0)) := Lib.hid (by rw [hr.out, eiR, h1]; rfl)
    have hc := Lib.hid (fun W => isplan12 s h1 W hsm)
    have hc2 := Lib.hid (fun W => erased12 s rfl W hsm)
    clear hr h1
    go_enter Try.func24, Try.ntmps24
    go_wp2_with fail
    refine (hc.out _).mono ?_
    rintro e w1 ⟨rfl, rfl⟩
    go_wp2_with fail
    refine (hc2.out _).mono ?_
    rintro e w1 ⟨rfl, rfl⟩
    go_wp2
    go_ret2
    exact ⟨ret8_2 hres.out, Below.refl _ _⟩
theorem line12 (s : ByteArray) {v : Bool} (hv : lineC s = v) (w : World) (hs : s.size ≤ maxLen) :
    Calls Try.prog 72 #[.string s] w fun e w' => e = .returned (.bool v) ∧ w = w' := by
  have hc := Lib.hid (fun W => text_spec s 60 v hv W hs)
  clear hv
  go_enter Try.func72, Try.ntmps72
  go_wp2_with fail
  refine (hc.out _).mono ?_
  rintro e w1 ⟨rfl, rfl⟩
  go_wp2
  go_ret
  exact ⟨rfl, rfl⟩
theorem at12 (s : ByteArray) (a : Int) {v : UInt8} (hv : atL s a = v) (w : World) (hs : s.size ≤ 1048576) :
    Calls Try.prog 83 #[.string s, .int .i64 a] w fun e w' => e = .returned (.int .u8 (v.toNat : Int)) ∧ w = w' := by
  have hw1 : IntKind.i64.wrap ((s.size : Int) - 1) = (s.size : Int) - 1 := IntWalk.i64_in _ (by omega)
  cases h1 : inR a 0 ((s.size : Int) - 1) with
  | false =>
    have hr : Hid ((32 : Int) = (v.toNat : Int)) := Lib.hid (by rw [← hv, atL, h1]; rfl)
    have hc := Lib.hid (fun W => in8_spec h1 W)
    clear hv h1
    go_enter Try.func83, Try.ntmps83
    go_wp2_with fail
    refine (hc.out _).mono ?_
    rintro e w1 ⟨rfl, rfl⟩
    go_wp2
    go_ret
    exact ⟨ret_u12 hr.out, rfl⟩
  | true =>
    have hc := Lib.hid (fun W => in8_spec h1 W)
    obtain ⟨a0, a1⟩ := inR_iff.1 h1
    obtain ⟨n, rfl⟩ := Int.eq_ofNat_of_zero_le a0
    have hlt : n < s.size := by omega
    have hr : Hid (((s[n]'hlt).toNat : Int) = (v.toNat : Int)) := Lib.hid (by rw [← hv, atL, h1, if_pos rfl, Int.toNat_natCast, bAt_eq hlt])
    have k0 : (0 : Int) ≤ (n : Int) := a0
    have k1 : (n : Int) < (s.size : Int) := by omega
    clear hv h1 a0 a1
    go_enter Try.func83, Try.ntmps83
    go_wp2_with fail
    refine (hc.out _).mono ?_
    rintro e w1 ⟨rfl, rfl⟩
    go_wp2
    go_ret
    exact ⟨ret_u12 hr.out, rfl⟩
set_option maxHeartbeats 1600000 in
theorem wrong12 (t s : ByteArray) (sh : Int) (hsh : -60 ≤ sh ∧ sh ≤ 60) {v : Int} (hv : wroN t s sh = v) (w : World) (ht : t.size ≤ 1048576) (hs : s.size ≤ 1048576) :
    Calls Try.prog 74 #[.string t, .string s, .int .i64 sh] w fun e w' => e = .returned (.int .i64 v) ∧ w = w' := by
  have hv0 := Lib.hid hv
  clear hv
  go_enter Try.func74, Try.ntmps74
  go_wp2
  go_loopw [7, 8] (fun n a wi => ∃ k : Nat, k ≤ 180 ∧ a = .int .i64 ((k : Int) - 60) ∧ n = .int .i64 (shN t s sh k : Int) ∧ w = wi) (fun _ a _ => (120 - intOf a).toNat)
  case atStart => exact ⟨0, by omega, rfl, rfl, rfl⟩
  case round =>
    obtain ⟨k, hk, rfl, rfl, rfl⟩ := hrel
    have hle := shN_le t s sh k
    have hst := Lib.hid (show shN t s sh (k + 1) = shN t s sh k + if (atL t ((k : Int) - 60 - sh)).toNat = (atL s ((k : Int) - 60)).toNat then 0 else 1 from rfl)
    by_cases hlt : k < 180
    · obtain ⟨a, ha⟩ : ∃ a : Int, (k : Int) - 60 = a := ⟨_, rfl⟩
      rw [ha] at hst ⊢
      have g1 : a < 120 := by omega
      have hw1 : IntKind.i64.wrap (a - sh) = a - sh := IntWalk.i64_in _ (by omega)
      have hw2 : IntKind.i64.wrap (a + 1) = ((k + 1 : Nat) : Int) - 60 := by rw [IntWalk.i64_in _ (by omega)]; omega
      have hc1 := Lib.hid (fun W => at12 t (a - sh) rfl W ht)
      have hc2 := Lib.hid (fun W => at12 s a rfl W hs)
      generalize shN t s sh k = m at *
      generalize atL t (a - sh) = p at *
      generalize atL s a = q at *
      have s1 : IntKind.i64.wrap ((m : Int) + 1) = ((m + 1 : Nat) : Int) := by rw [IntWalk.i64_in _ (by omega)]; omega
      replace ha := Lib.hid ha
      by_cases hpq : p.toNat = q.toNat
      · have y1 : ((p.toNat : Int) == (q.toNat : Int)) = true := beq_iff_eq.2 (by omega)
        have y2 : ((p.toNat : Int) != (q.toNat : Int)) = false := by rw [bne, y1]; rfl
        have y3 : (p.toNat == q.toNat) = true := beq_iff_eq.2 hpq
        have hq := Lib.hid (show shN t s sh (k + 1) = m by rw [hst.out, if_pos hpq]; rfl)
        clear hst hpq
        go_wp2_with fail
        refine (hc1.out _).mono ?_
        rintro e w1 ⟨rfl, rfl⟩
        go_wp2_with fail
        refine (hc2.out _).mono ?_
        rintro e w1 ⟨rfl, rfl⟩
        go_wp2
        go_roundw
        case rel => exact ⟨k + 1, by omega, by go_num, (by rw [hq.out] <;> go_num), (by first | trivial | rfl)⟩
        case measure => have := ha.out; simp [intOf]; omega
      · have y1 : ((p.toNat : Int) == (q.toNat : Int)) = false := beq_eq_false_iff_ne.2 (by omega)
        have y2 : ((p.toNat : Int) != (q.toNat : Int)) = true := by rw [bne, y1]; rfl
        have y3 : (p.toNat == q.toNat) = false := beq_eq_false_iff_ne.2 hpq
        have hq := Lib.hid (show shN t s sh (k + 1) = m + 1 by rw [hst.out, if_neg hpq])
        clear hst hpq
        go_wp2_with fail
        refine (hc1.out _).mono ?_
        rintro e w1 ⟨rfl, rfl⟩
        go_wp2_with fail
        refine (hc2.out _).mono ?_
        rintro e w1 ⟨rfl, rfl⟩
        go_wp2
        go_roundw
        case rel => exact ⟨k + 1, by omega, by go_num, (by rw [hq.out] <;> go_num), (by first | trivial | rfl)⟩
        case measure => have := ha.out; simp [intOf]; omega
    · obtain rfl : k = 180 := by omega
      have hr := Lib.hid (show (shN t s sh 180 : Int) = v from hv0.out)
      generalize shN t s sh 180 = m at *
      simp only [show (((180 : Nat) : Int) - 60) = 120 from rfl]
      go_wp2
      go_ret
      exact ⟨ret_i64 hr.out, rfl⟩
end Go.Proofs.Ytomnnhmhmehdjaa
