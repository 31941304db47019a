/- What the law on typed acts asks of plain data; blanks at a line's end as the law cuts them. -/
import Derived.Test.YtiopeheockajaaaDoorTa0
import Derived.Test.YtiopeheockajaaaDoorAfl2
namespace Go.Proofs.YtiopeheockajaaaDoor
open Go.RowKit
set_option linter.unusedVariables false
set_option linter.unusedSimpArgs false

theorem big_any (A : Option Addr) (n c : Nat) (w : World) (hn : n ≤ maxLen) (v : Bool) (hv : decide (4096 < n) = v) :
    Calls Tryd.prog 11 #[.slice A n c] w fun e w' => e = .returned (.bool v) ∧ w = w' := by
  unfold maxLen at hn
  have hr : Hid (v = decide ((4096 : Int) < (n : Int))) := Lib.hid (by rw [← hv]; apply decide_eq_decide.2; omega)
  clear hv
  go_enter Tryd.func11, Tryd.ntmps11
  go_wp2
  go_ret
  exact ⟨ret_bo hr.out.symm, rfl⟩
theorem take_text {s : ByteArray} {k : Nat} (hk : k ≤ s.size) (h : trimL s.data.toList = s.data.toList.take k) : s.extract 0 k = trimT s := by
  apply ByteArray.ext
  rw [ByteArray.data_extract, trimT]
  apply Array.toList_inj.1
  rw [h]
  simp
set_option maxHeartbeats 800000 in
theorem trim_any (s : ByteArray) (w : World) (hs : s.size ≤ 1048576) :
    Calls Tryd.prog 28 #[.string s] w fun e w' => e = .returned (.string (trimT s)) ∧ w = w' := by
  have hgo : Hid (∀ k (hk : k < s.size), s.data.toList[k]? = some (s[k]'hk)) := Lib.hid fun k hk => byte_of hk
  have hfull : Hid (s.data.toList.take s.size = s.data.toList) := Lib.hid (List.take_of_length_le (Nat.le_refl _))
  have hstop : Hid (∀ k : Nat, k ≤ s.size → trimL s.data.toList = trimL (s.data.toList.take k) → (k = 0 ∨ ∃ b, s.data.toList[k - 1]? = some b ∧ ¬ b = 32) → s.extract 0 k = trimT s) := Lib.hid fun k hk h1 h2 => by
    have h3 := trim_len_stop (by exact hk) h1 h2
    refine take_text hk ?_
    rw [← h3]
    exact trim_take _
  go_enter Tryd.func28, Tryd.ntmps28
  go_wp2
  go_loop [3] (fun i => ∃ k : Nat, k ≤ s.size ∧ i = .int .i64 k ∧ Hid (trimL s.data.toList = trimL (s.data.toList.take k))) (fun i => (intOf i).toNat)
  case atStart => exact ⟨s.size, by omega, rfl, Lib.hid (by rw [hfull.out])⟩
  case round =>
    obtain ⟨k, hk, rfl, htr⟩ := hrel
    have hk0' : (0 : Int) ≤ (k : Int) := Int.natCast_nonneg _
    have hk1' : (k : Int) ≤ (s.size : Int) := by omega
    by_cases hk0 : 0 < k
    · have g0 : decide ((0 : Int) < (k : Int)) = true := decide_eq_true (by omega)
      have hw1 : IntKind.i64.wrap ((k : Int) - 1) = (k : Int) - 1 := IntWalk.i64_in _ (by omega)
      have hkn : ((k : Int) - 1).toNat = k - 1 := by omega
      have hi0 : (0 : Int) ≤ (k : Int) - 1 := by omega
      have hi1 : (k : Int) - 1 < (s.size : Int) := by omega
      have hlt : k - 1 < s.size := by omega
      have hby := hgo.out (k - 1) hlt
      by_cases h32 : (s[k - 1]'hlt) = 32
      · have e1 : (((s[k - 1]'hlt).toNat : Int) == 32) = true := by rw [h32]; rfl
        have e2 : ((s[k - 1]'hlt).toNat == 32) = true := by rw [h32]; rfl
        have hnx : Hid (trimL s.data.toList = trimL (s.data.toList.take (k - 1))) := Lib.hid (by
          rw [htr.out, ← trim_end hby h32, show k - 1 + 1 = k by omega])
        clear h32 hby
        go_wp2
        go_round
        case rel => exact ⟨k - 1, by omega, by rw [Int.natCast_sub (by omega)]; rfl, hnx⟩
        case measure => simp [intOf]; omega
      · have e1 : (((s[k - 1]'hlt).toNat : Int) == 32) = false := beq_eq_false_iff_ne.2 (fun h => h32 (UInt8.toNat_inj.1 (by simpa using (by omega : (s[k - 1]'hlt).toNat = 32))))
        have e2 : ((s[k - 1]'hlt).toNat == 32) = false := beq_eq_false_iff_ne.2 (fun h => h32 (UInt8.toNat_inj.1 (by simpa using h)))
        have hr := Lib.hid (hstop.out k hk htr.out (.inr ⟨_, hby, h32⟩))
        clear h32 hby hstop
        go_wp2
        go_ret
        exact ⟨ret_st hr.out, rfl⟩
    · have g0 : decide ((0 : Int) < (k : Int)) = false := decide_eq_false (by omega)
      have hr := Lib.hid (hstop.out k hk htr.out (.inl (by omega)))
      clear hstop
      go_wp2
      go_ret
      exact ⟨ret_st hr.out, rfl⟩

/-! Plain data. -/
theorem letter_of {b : UInt8} (h1 : 32 ≤ b.toNat) (h2 : b.toNat ≤ 126) : actOk (actB b) = true := by
  unfold actB actOk
  by_cases hb : b = 32
  · rw [if_pos hb]
    rfl
  · rw [if_neg hb]
    have hne : b.toNat ≠ 32 := fun h => hb (UInt8.toNat_inj.1 (by simpa using h))
    simp [isLet]
    omega
theorem bytes_trim {s : ByteArray} (h : bytesIn 32 126 s = true) : ∀ b ∈ trimL s.data.toList, 32 ≤ b.toNat ∧ b.toNat ≤ 126 := fun b hb => by
  rw [trim_take] at hb
  have hb' := List.mem_of_mem_take hb
  unfold bytesIn at h
  rw [List.all_eq_true] at h
  have := h b hb'
  simpa using this
theorem afl_ok {l : List UInt8} (h : ∀ b ∈ l, 32 ≤ b.toNat ∧ b.toNat ≤ 126) (hl : l.length ≤ 200) : actsOk (aflL l) = true := by
  unfold actsOk
  rw [afl_len, decide_eq_true hl, Bool.and_true, List.all_eq_true]
  intro x hx
  unfold aflL at hx
  rw [List.mem_map] at hx
  obtain ⟨b, hb, rfl⟩ := hx
  exact letter_of (h b hb).1 (h b hb).2
theorem outs_ok : ∀ {l : List UInt8} {a : Int}, (∀ b ∈ l, 32 ≤ b.toNat ∧ b.toNat ≤ 126) → 0 ≤ a → a + 2 * (l.length : Int) ≤ 300 → ∀ x ∈ outsL a l, struckOk x = true
  | [], a, h, ha, hb, x, hx => by cases hx
  | b :: l, a, h, ha, hb, x, hx => by
    rw [List.length_cons] at hb
    have h' := fun c hc => h c (List.mem_cons_of_mem _ hc)
    unfold outsL at hx
    split at hx
    · exact outs_ok h' (by omega) (by omega) x hx
    · rename_i hne
      rcases List.mem_cons.1 hx with rfl | hx
      · have h1 := h b (List.mem_cons_self ..)
        have hne' : b.toNat ≠ 32 := fun q => hne (UInt8.toNat_inj.1 (by simpa using q))
        simp [struckOk, isIn, isLet]
        omega
      · exact outs_ok h' (by omega) (by omega) x hx
/-- A line that can be told is typed and stands there. -/
theorem afl_typed {c : CarriageD} {s : ByteArray} (h : (aflR c s).2 = 0) :
    (typed c (aflR c s).1).2.2 = 0 ∧ (typed c (aflR c s).1).2.1 = c.left + 2 * ((aflR c s).1.length : Int) ∧ (aflR c s).1.length ≤ 150 ∧ carOk c = true ∧ (∀ x ∈ (aflR c s).1, x.good) ∧ (∀ x ∈ (typed c (aflR c s).1).1, x.good) ∧ lineR c (typed c (aflR c s).1).1 = (trimT s, 0) := by
  unfold aflR at h ⊢
  split at h
  · rename_i hc
    split at h
    · rename_i hb
      split at h
      · cases h
      · rename_i hl
        rw [if_pos hc, if_pos hb, if_neg hl]
        have hcr := carOk_iff.1 hc
        have hlen : (trimL s.data.toList).length ≤ 150 := by omega
        have hby := bytes_trim hb.1
        have hok := afl_ok hby (by omega)
        obtain ⟨b, hr⟩ := run_line c (by omega) (trimL s.data.toList) (startS c) rfl (by show c.left + _ ≤ _; omega)
        have hty : typed c (aflL (trimL s.data.toList)) = (outsL c.left (trimL s.data.toList), c.left + 2 * ((trimL s.data.toList).length : Int), 0) := by
          unfold typed ran
          rw [if_pos ⟨hc, hok⟩, hr]
          simp only
          rw [if_neg (by rw [afl_len]; omega)]
          rfl
        have hou := outs_ok (a := c.left) hby (by omega) (by omega)
        have hlo : lineOk (outsL c.left (trimL s.data.toList)) = true := by
          unfold lineOk
          rw [decide_eq_true (Nat.le_trans (outs_len _ _) (by omega)), Bool.and_true, List.all_eq_true]
          exact hou
        simp only [hty]
        refine ⟨trivial, by rw [afl_len], by rw [afl_len]; exact hlen, hc, fun x hx => ?_, fun x hx => ?_, ?_⟩
        · unfold aflL at hx
          rw [List.mem_map] at hx
          obtain ⟨d, _, rfl⟩ := hx
          unfold actB
          by_cases hd : d = 32
          · rw [if_pos hd]
            exact ⟨rfl, by show (0 : Nat) ≤ maxLen; unfold maxLen; omega⟩
          · rw [if_neg hd]
            exact ⟨rfl, by show (1 : Nat) ≤ maxLen; unfold maxLen; omega⟩
        · have h1 := hou x hx
          unfold struckOk at h1
          rw [Bool.and_eq_true, isIn_iff] at h1
          have h2 := isLet_size1 h1.2
          refine ⟨?_, by rw [h2]; unfold maxLen; omega⟩
          have := h1.1
          simp [Lit.wf, IntKind.min, IntKind.max, IntKind.signed, IntKind.bits]
          omega
        · rw [lineR, if_pos ⟨hc, hlo⟩]
          have hg := line_outs c (trimL s.data.toList) [] 0 (Nat.le_refl _)
          rw [show c.left + 2 * ((0 : Nat) : Int) = c.left by omega, lineX_trim] at hg
          rw [hg]
          rfl
    · cases h
  · cases h
/-- What a run has printed is good: places of a line, letters of the acts. -/
theorem run_good {c : CarriageD} (hc : 0 ≤ c.left ∧ c.left ≤ 300) : ∀ (l : List ActD) (s : StD), (0 ≤ s.at_ ∧ s.at_ ≤ 300) → (∀ x ∈ l, x.good) → (∀ x ∈ s.out, x.good) → ∀ x ∈ (runS c s l).1.out, x.good
  | [], s, hs, hl, ho => ho
  | a :: l, s, hs, hl, ho => by
    have hl' := fun x hx => hl x (List.mem_cons_of_mem _ hx)
    have ha := hl a (List.mem_cons_self ..)
    have hst : 0 ≤ stepOf a.kind := by unfold stepOf; repeat' split
                                       all_goals omega
    rw [runS]
    cases hx : actS c s a with
    | none => exact ho
    | some s' =>
      simp only
      have hn : (0 ≤ s'.at_ ∧ s'.at_ ≤ 300) ∧ ∀ x ∈ s'.out, x.good := by
        unfold actS at hx
        split at hx
        · split at hx
          · cases hx
          · rename_i hq
            cases hx
            refine ⟨by simp only; omega, fun x hx => ?_⟩
            simp only at hx
            split at hx
            · rcases List.mem_append.1 hx with hx | hx
              · exact ho x hx
              · rw [List.mem_singleton] at hx
                subst hx
                refine ⟨?_, ha.2⟩
                simp [Lit.wf, IntKind.min, IntKind.max, IntKind.signed, IntKind.bits]
                omega
            · exact ho x hx
        · split at hx
          · cases hx
            exact ⟨by simp only; omega, ho⟩
          · split at hx
            · cases hx
              exact ⟨hs, ho⟩
            · cases hx
              exact ⟨hc, ho⟩
      exact run_good hc l s' hn.1 hl' hn.2
theorem typed_good {c : CarriageD} {l : List ActD} (hg : c.good) (hl : ∀ x ∈ l, x.good) : ∀ x ∈ (typed c l).1, x.good := by
  unfold typed
  split
  · rename_i h
    have hcr := carOk_iff.1 h.1
    split
    · intro x hx; cases hx
    · exact run_good (by omega) l (startS c) (by show 0 ≤ c.left ∧ c.left ≤ 300; omega) hl (fun x hx => by cases hx)
  · intro x hx; cases hx
/-- Acts that are stopped are told. -/
theorem stop_told {c : CarriageD} {l : List ActD} (h : (bellsR c l).2 = 0) : (((typed c l).2.2 == 6) != ((lockedR c l).2 == 0)) = false := by
  unfold bellsR at h
  split at h
  · rename_i hk
    unfold typed lockedR
    rw [if_pos hk, if_pos hk]
    split <;> rfl
  · cases h
end Go.Proofs.YtiopeheockajaaaDoor
