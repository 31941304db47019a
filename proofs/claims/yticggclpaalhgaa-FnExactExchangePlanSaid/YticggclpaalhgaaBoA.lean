/- The code of two layouts: the model's function. -/
import Derived.Test.YticggclpaalhgaaSpB
namespace Go.Proofs.Yticggclpaalhgaa
open Go.RowKit Go.ChangeMaps Go.MapKept
set_option linter.unusedVariables false
set_option linter.unusedSimpArgs false

theorem shape_stop {xs ys : List ByteArray} {r : Nat} {s t : ByteArray} (hs : xs[r]? = some s) (ht : ys[r]? = some t) (h : ¬ s.size = t.size) : sameShape xs ys = false := by
  refine decide_eq_false fun e => h ?_
  have h1 : (xs.map (·.size))[r]? = some s.size := by simp [hs]
  have h2 : (ys.map (·.size))[r]? = some t.size := by simp [ht]
  rw [e, h2] at h1
  exact (Option.some.inj h1).symm
theorem shape_len {xs ys : List ByteArray} (h : ¬ xs.length = ys.length) : sameShape xs ys = false := by
  refine decide_eq_false fun e => h ?_
  have := congrArg List.length e
  simpa using this
theorem in_stop {xs ys : List ByteArray} {r c : Nat} {s : ByteArray} {x : UInt8} (hs : xs[r]? = some s) (hx : s.data.toList[c]? = some x) (h : look6 x (keysFrom 0 ys) = none) : allIn xs ys = false := by
  unfold allIn
  rw [List.all_eq_false]
  exact ⟨(x, r, c), keysFrom_mem.2 ⟨Nat.zero_le _, s, hs, hx⟩, by simp [h]⟩
theorem shape_end {xs ys : List ByteArray} (hl : xs.length = ys.length) (h : ∀ (r : Nat) (s t : ByteArray), xs[r]? = some s → ys[r]? = some t → s.size = t.size) : sameShape xs ys = true := by
  refine decide_eq_true (List.ext_getElem? fun i => ?_)
  rcases Nat.lt_or_ge i xs.length with hi | hi
  · have h1 : xs[i]? = some xs[i] := List.getElem?_eq_getElem hi
    have h2 : ys[i]? = some (ys[i]'(by omega)) := List.getElem?_eq_getElem (by omega)
    simp [h1, h2, h i _ _ h1 h2]
  · rw [List.getElem?_eq_none (by simpa using hi), List.getElem?_eq_none (by simp; omega)]
theorem in_end {xs ys : List ByteArray} (h : ∀ (r : Nat) (s : ByteArray) (c : Nat) (x : UInt8), xs[r]? = some s → s.data.toList[c]? = some x → (look6 x (keysFrom 0 ys)).isSome = true) : allIn xs ys = true := by
  unfold allIn
  rw [List.all_eq_true]
  intro e he
  obtain ⟨_, s, h1, h2⟩ := keysFrom_mem.1 he
  exact h _ s _ _ h1 h2
theorem both_1 {xs ys : List ByteArray} (h : layOk xs = false ∨ layOk ys = false) : bothCode xs ys = 1 := by
  unfold bothCode
  rw [if_neg]
  rcases h with h | h <;> simp [h]
theorem both_9 {xs ys : List ByteArray} (h1 : layOk xs = true) (h2 : layOk ys = true) (h : sameShape xs ys = false ∨ allIn xs ys = false) : bothCode xs ys = 9 := by
  unfold bothCode
  rw [if_pos (by simp [h1, h2]), if_neg]
  rcases h with h | h <;> simp [h]
theorem both_0 {xs ys : List ByteArray} (h1 : layOk xs = true) (h2 : layOk ys = true) (h3 : sameShape xs ys = true) (h4 : allIn xs ys = true) : bothCode xs ys = 0 := by
  unfold bothCode
  rw [if_pos (by simp [h1, h2]), if_pos (by simp [h3, h4])]
theorem ret_c {a b : Int} (h : a = b) : Ending.returned (.int .i64 b) = .returned (.int .i64 a) := by rw [h]

set_option maxRecDepth 100000 in
set_option maxHeartbeats 3200000 in
theorem both_spec (R Q : Nat) (A : Option Addr) (n c : Nat) (xs : List ByteArray) (B : Option Addr) (m d : Nat) (ys : List ByteArray) (w : World) (hR : w.cell? ⟨R, 0, none⟩ = some (.slice A n c)) (hQ : w.cell? ⟨Q, 0, none⟩ = some (.slice B m d)) (h : Strs w A n xs) (hn : n ≤ 1048576) (hs : ∀ s ∈ xs, s.size ≤ 1048576)
    (h' : Strs w B m ys) (hm : m ≤ 1048576) (hs' : ∀ s ∈ ys, s.size ≤ 1048576) :
    Calls Try.prog 59 #[.pointer (some ⟨R, 0, none⟩), .pointer (some ⟨Q, 0, none⟩)] w fun e w' => e = .returned (.int .i64 (bothCode xs ys)) ∧ Below w.heap.size w w' := by
  generalize hr : bothCode xs ys = r
  replace hr := Lib.hid hr.symm
  have hlx := Lib.hid h.1
  have hly := Lib.hid h'.1
  have hRl : R < w.heap.size := World.block_lt_of_cell? _ _ hR
  have hQl : Q < w.heap.size := World.block_lt_of_cell? _ _ hQ
  cases h1 : layOk xs with
  | false =>
    have hres := Lib.hid (hr.out.trans (both_1 (.inl h1)))
    have hq := Lib.hid (ok6_spec R A n c xs _ hR h hn hs false h1)
    clear h1 hr
    go_enter Try.func59, Try.ntmps59
    go_wp2_with fail
    refine hq.out.mono ?_
    rintro e w1 ⟨rfl, hb1⟩
    have hbw := Lib.hid hb1
    go_wp2
    go_ret
    exact ⟨ret_c hres.out, hbw.out⟩
  | true =>
    have hq := Lib.hid (ok6_spec R A n c xs _ hR h hn hs true h1)
    cases h2 : layOk ys with
    | false =>
      have hres := Lib.hid (hr.out.trans (both_1 (.inr h2)))
      have hq2 := Lib.hid (fun W (hW : W.cell? ⟨Q, 0, none⟩ = some (.slice B m d)) (hP : Strs W B m ys) => ok6_spec Q B m d ys W hW hP hm hs' false h2)
      clear h1 h2 hr
      go_enter Try.func59, Try.ntmps59
      go_wp2_with fail
      refine hq.out.mono ?_
      rintro e w1 ⟨rfl, hb1⟩
      have hbw := Lib.hid hb1
      go_wp2_with fail
      refine (hq2.out _ (cell_step hQ hbw.out) (h'.below hbw.out)).mono ?_
      rintro e w2 ⟨rfl, hb2⟩
      have hbw2 := Lib.hid (hbw.out.step hb2)
      go_wp2
      go_ret
      exact ⟨ret_c hres.out, hbw2.out⟩
    | true =>
      have hq2 := Lib.hid (fun W (hW : W.cell? ⟨Q, 0, none⟩ = some (.slice B m d)) (hP : Strs W B m ys) => ok6_spec Q B m d ys W hW hP hm hs' true h2)
      have h9 : Hid (sameShape xs ys = false ∨ allIn xs ys = false → r = 9) := Lib.hid fun hh => hr.out.trans (both_9 h1 h2 hh)
      have h0 : Hid (sameShape xs ys = true → allIn xs ys = true → r = 0) := Lib.hid fun a b => hr.out.trans (both_0 h1 h2 a b)
      have hcall := Lib.hid (fun z W (hW : Strs W B m ys) => at_spec B m d ys z W hW hm hs' _ rfl)
      replace hs := Lib.hid hs
      clear h1 h2 hr
      go_enter Try.func59, Try.ntmps59
      go_wp2_with fail
      refine hq.out.mono ?_
      rintro e w1 ⟨rfl, hb1⟩
      have hbw := Lib.hid hb1
      go_wp2_with fail
      refine (hq2.out _ (cell_step hQ hbw.out) (h'.below hbw.out)).mono ?_
      rintro e w2 ⟨rfl, hb2⟩
      have hbw2 := Lib.hid (hbw.out.step hb2)
      have q1 := (hbw2.out.cell (p := ⟨R, 0, none⟩) hRl).trans hR
      have q2 := (hbw2.out.cell (p := ⟨Q, 0, none⟩) hQl).trans hQ
      have hX := h.below hbw2.out
      have hY := h'.below hbw2.out
      clear hb1 hb2 hq hq2 hbw
      by_cases hnm : n = m
      · subst hnm
        have gl : ((n : Int) == (n : Int)) = true := beq_self_eq_true _
        go_wp2_with fail
        go_quiet (fail)
        go_wp2
        go_loopw [5, 6, 7, 8] (fun i _ _ _ wr => ∃ k : Nat, k ≤ n ∧ i = .int .i64 k ∧ (∀ (q : Nat) (s t : ByteArray), q < k → xs[q]? = some s → ys[q]? = some t → s.size = t.size) ∧ (∀ (q : Nat) (s : ByteArray) (c : Nat) (x : UInt8), q < k → xs[q]? = some s → s.data.toList[c]? = some x → (look6 x (keysFrom 0 ys)).isSome = true) ∧ Below w2.heap.size w2 wr) (fun i _ _ _ _ => n - (intOf i).toNat)
        case atStart => exact ⟨0, by omega, rfl, fun q s t hq => absurd hq (by omega), fun q s c x hq => absurd hq (by omega), below_drewN (Below.refl _ _) _⟩
        case round =>
          obtain ⟨k, hk, rfl, hsz, hin, hbr⟩ := hrel
          replace hsz := Lib.hid hsz
          replace hin := Lib.hid hin
          have p1 := cell_step q1 hbr
          have p2 := cell_step q2 hbr
          by_cases hlt : k < n
          · obtain ⟨b, off, s, rfl, hb, hx, c0⟩ := str_at (hX.below hbr) hlt
            obtain ⟨b', off', t, rfl, hb', hy, d0⟩ := str_at (hY.below hbr) hlt
            have hssz : s.size ≤ 1048576 := hs.out s (List.mem_of_getElem? hx.out)
            have hk0 : (0 : Int) ≤ (k : Int) := Int.natCast_nonneg _
            have hk1 : (k : Int) < (n : Int) := by omega
            by_cases hst : s.size = t.size
            · have gs : ((s.size : Int) == (t.size : Int)) = true := by rw [hst]; exact beq_self_eq_true _
              have gs' : ((s.size : Int) != (t.size : Int)) = false := by rw [hst]; simp
              replace hst := Lib.hid hst
              go_wp2_with fail
              go_quiet (fail)
              have hbr1 := Lib.hid (below_drewN hbr ‹Nat›)
              rename World => wa
              go_wp2
              go_loopw [6, 7, 8] (fun j _ _ wq => ∃ c : Nat, c ≤ s.size ∧ j = .int .i64 c ∧ (∀ (q : Nat) (x : UInt8), q < c → s.data.toList[q]? = some x → (look6 x (keysFrom 0 ys)).isSome = true) ∧ Below w2.heap.size w2 wq) (fun j _ _ _ => s.size - (intOf j).toNat)
              case atStart => exact ⟨0, by omega, rfl, fun q x hq => absurd hq (by omega), below_drewN hbr _⟩
              case round =>
                rename World => wq
                obtain ⟨c', hc', rfl, hall, hbq⟩ := hrel
                replace hall := Lib.hid hall
                have r1 := cell_step q1 hbq
                have r2 := cell_step q2 hbq
                obtain ⟨_, _, s', e', _, hx2, c2⟩ := str_at (hX.below hbq) hlt
                cases e'
                obtain rfl : s' = s := by have h1 := hx2.out; rw [hx.out] at h1; exact (Option.some.inj h1).symm
                have hYq := Lib.hid (hY.below hbq)
                clear hx2 p1 p2 c0 d0
                by_cases hlt2 : c' < s'.size
                · have hc0 : (0 : Int) ≤ (c' : Int) := Int.natCast_nonneg _
                  have hc1 : (c' : Int) < (s'.size : Int) := by omega
                  have hat := Lib.hid (bytes_at s' hlt2)
                  cases hl : look6 (s'[c']'hlt2) (keysFrom 0 ys) with
                  | none =>
                    have hres := Lib.hid (h9.out (.inr (in_stop hx.out hat.out hl)))
                    have hc1 := Lib.hid (hcall.out (s'[c']'hlt2))
                    rw [hl] at hc1
                    simp only [atI] at hc1
                    clear hl
                    go_wp2_with fail
                    go_quiet ((go_at_call 57; refine quiet_l (hc1.out _ ?_); exact hYq.out.drewN _))
                    go_wp2
                    go_ret
                    exact ⟨ret_c hres.out, hbw2.out.step (below_drewN hbq _)⟩
                  | some p =>
                    have hnx : Hid (∀ (q : Nat) (x : UInt8), q < c' + 1 → s'.data.toList[q]? = some x → (look6 x (keysFrom 0 ys)).isSome = true) := Lib.hid fun q x hq hx => by
                      rcases Nat.lt_or_ge q c' with h' | h'
                      · exact hall.out q x h' hx
                      · obtain rfl : q = c' := by omega
                        rw [hat.out] at hx
                        cases hx
                        rw [hl]; rfl
                    have hc1 := Lib.hid (hcall.out (s'[c']'hlt2))
                    rw [hl] at hc1
                    simp only [atI] at hc1
                    have g0 : decide ((p.1 : Int) < 0) = false := decide_eq_false (by omega)
                    clear hl hat
                    go_wp2_with fail
                    go_quiet ((go_at_call 57; refine quiet_l (hc1.out _ ?_); exact hYq.out.drewN _))
                    go_wp2
                    go_roundw
                    case rel => exact ⟨c' + 1, by omega, by go_num, hnx.out, below_drewN hbq _⟩
                    case measure => simp [intOf]; omega
                · obtain rfl : c' = s'.size := by omega
                  have n1 : Hid (∀ (q : Nat) (s t : ByteArray), q < k + 1 → xs[q]? = some s → ys[q]? = some t → s.size = t.size) := Lib.hid fun q s t hq h1 h2 => by
                    rcases Nat.lt_or_ge q k with h' | h'
                    · exact hsz.out q s t h' h1 h2
                    · obtain rfl : q = k := by omega
                      rw [hx.out] at h1
                      rw [hy.out] at h2
                      cases h1; cases h2
                      exact hst.out
                  have n2 : Hid (∀ (q : Nat) (s : ByteArray) (c : Nat) (x : UInt8), q < k + 1 → xs[q]? = some s → s.data.toList[c]? = some x → (look6 x (keysFrom 0 ys)).isSome = true) := Lib.hid fun q s c x hq h1 h2 => by
                    rcases Nat.lt_or_ge q k with h' | h'
                    · exact hin.out q s c x h' h1 h2
                    · obtain rfl : q = k := by omega
                      rw [hx.out] at h1
                      cases h1
                      exact hall.out c x (by rw [← size_len]; exact (List.getElem?_eq_some_iff.1 h2).1) h2
                  go_wp2
                  go_roundw
                  case rel => exact ⟨k + 1, by omega, by go_num, n1.out, n2.out, hbq⟩
                  case measure => simp [intOf]; omega
            · have hres := Lib.hid (h9.out (.inl (shape_stop hx.out hy.out hst)))
              have gs : ((s.size : Int) == (t.size : Int)) = false := beq_eq_false_iff_ne.2 (by omega)
              have gs' : ((s.size : Int) != (t.size : Int)) = true := by simp; omega
              clear hst
              go_wp2_with fail
              go_quiet (fail)
              go_wp2
              go_ret
              exact ⟨ret_c hres.out, hbw2.out.step (below_drewN hbr _)⟩
          · obtain rfl : k = n := by omega
            have hres : Hid (r = 0) := Lib.hid (h0.out (shape_end (by rw [hlx.out, hly.out]) (fun q s t h1 h2 => hsz.out q s t (by rw [← hlx.out]; exact (List.getElem?_eq_some_iff.1 h1).1) h1 h2)) (in_end (fun q s c x h1 h2 => hin.out q s c x (by rw [← hlx.out]; exact (List.getElem?_eq_some_iff.1 h1).1) h1 h2)))
            clear hsz hin
            go_wp2
            go_ret
            exact ⟨ret_c hres.out, hbw2.out.step hbr⟩
      · have hres := Lib.hid (h9.out (.inl (shape_len (by rw [hlx.out, hly.out]; exact hnm))))
        have gl : ((n : Int) == (m : Int)) = false := beq_eq_false_iff_ne.2 (by omega)
        clear hnm
        go_wp2_with fail
        go_quiet (fail)
        go_wp2
        go_ret
        exact ⟨ret_c hres.out, below_drewN hbw2.out _⟩
end Go.Proofs.Yticggclpaalhgaa
