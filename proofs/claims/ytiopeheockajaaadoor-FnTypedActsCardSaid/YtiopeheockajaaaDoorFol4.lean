/- What the program tells of acts: LockedAt, BellsOf, TypeActs. -/
import Derived.Test.YtiopeheockajaaaDoorFol3
import Derived.Test.YtiopeheockajaaaDoorMach5
namespace Go.Proofs.YtiopeheockajaaaDoor
open Go.RowKit Go.ChangeShapes Go.WideShapes Go.Deep
set_option linter.unusedVariables false
set_option linter.unusedSimpArgs false

theorem evs_len (c : CarriageD) : ∀ (l : List ActD) (s : StD), (evs c s l).length = if (runS c s l).2 < l.length then (runS c s l).2 + 1 else l.length
  | [], s => rfl
  | a :: l, s => by
    unfold evs runS
    cases ha : actS c s a with
    | none => simp
    | some s' =>
      have h := evs_len c l s'
      simp only [List.length_cons, h]
      split <;> split <;> omega
theorem evs_stopped (c : CarriageD) : ∀ (l : List ActD) (s : StD) (i : Nat) (e : EvD), (evs c s l)[i]? = some e → e.stopped = decide (i = (runS c s l).2)
  | [], s, i, e, h => by simp [evs] at h
  | a :: l, s, i, e, h => by
    unfold evs at h
    unfold runS
    cases ha : actS c s a with
    | none =>
      rw [ha] at h
      match i, h with
      | 0, h => simp at h; subst h; rfl
      | i + 1, h => simp at h
    | some s' =>
      rw [ha] at h
      match i, h with
      | 0, h => simp at h; subst h; simp [evOf]
      | i + 1, h =>
        simp only [List.getElem?_cons_succ] at h
        rw [evs_stopped c l s' i e h]
        simp
/-- How often the bell rings in events. -/
def ringsOf (l : List EvD) : Nat := l.countP (fun e => e.rung)
theorem actS_bells {c : CarriageD} {s s' : StD} {a : ActD} (h : actS c s a = some s') : s'.bells = s.bells + (if (evOf c s a).rung = true then 1 else 0) := by
  unfold actS at h
  split at h
  · rename_i hk
    split at h
    · cases h
    · cases h
      have hp : 0 < stepOf a.kind := by unfold stepOf; rcases hk with h | h | h <;> simp [h]
      simp only [evOf, decide_eq_true hp, Bool.true_and]
      congr 1
      simp
  · rename_i hk
    have hp : ¬ 0 < stepOf a.kind := by
      unfold stepOf
      have h0 : ¬ (a.kind = 0 ∨ a.kind = 1) := fun q => hk (by rcases q with q | q; exact .inl q; exact .inr (.inl q))
      have h3 : ¬ a.kind = 3 := fun q => hk (.inr (.inr q))
      rw [if_neg h0, if_neg h3]
      omega
    have hr : (evOf c s a).rung = false := by simp only [evOf, decide_eq_false hp, Bool.false_and]
    rw [hr]
    split at h
    · cases h; rfl
    · split at h
      · cases h; rfl
      · cases h; rfl
theorem evs_rings (c : CarriageD) : ∀ (l : List ActD) (s : StD), s.bells + ringsOf (evs c s l) = (runS c s l).1.bells
  | [], s => rfl
  | a :: l, s => by
    unfold evs runS
    cases ha : actS c s a with
    | none => simp [ringsOf, evStop]
    | some s' =>
      have h := evs_rings c l s'
      have hb := actS_bells ha
      simp only [← h, hb]
      unfold ringsOf
      rw [List.countP_cons]
      omega
/-- What events have printed. -/
def prOf (e : EvD) : Option StruckD := if e.place = 0 ∧ e.letter.size = 0 then none else some ⟨e.place, e.letter⟩
theorem actS_out {c : CarriageD} {s s' : StD} {a : ActD} (ho : actOk a = true) (h : actS c s a = some s') : s'.out = s.out ++ ((prOf (evOf c s a)).toList) := by
  unfold actS at h
  split at h
  · split at h
    · cases h
    · cases h
      simp only [evOf, prOf]
      by_cases hk : a.kind = 0
      · have hl : isLet a.letter = true := by simpa [actOk, hk] using ho
        have hz := isLet_size1 hl
        simp [hk, hz]
      · simp [hk]
        rfl
  · rename_i hk
    have h0 : ¬ a.kind = 0 := fun q => hk (.inl q)
    have hp : prOf (evOf c s a) = none := by
      simp [prOf, evOf, h0]
      rfl
    rw [hp]
    split at h
    · cases h; simp
    · split at h
      · cases h; simp
      · cases h; simp
theorem evs_out (c : CarriageD) : ∀ (l : List ActD) (s : StD), (∀ x ∈ l, actOk x = true) → s.out ++ (evs c s l).filterMap prOf = (runS c s l).1.out
  | [], s, _ => by simp [evs, runS]
  | a :: l, s, ho => by
    unfold evs runS
    cases ha : actS c s a with
    | none =>
      simp [prOf, evStop]
      rfl
    | some s' =>
      have h := evs_out c l s' (fun x hx => ho x (List.mem_cons_of_mem _ hx))
      have hb := actS_out (ho a (List.mem_cons_self ..)) ha
      simp only [← h, hb, List.filterMap_cons]
      cases prOf (evOf c s a) <;> simp
theorem rings_drop {E : List EvD} {k : Nat} {x : EvD} (h : E[k]? = some x) : ringsOf (E.drop k) = (if x.rung = true then 1 else 0) + ringsOf (E.drop (k + 1)) := by
  obtain ⟨h1, rfl⟩ := List.getElem?_eq_some_iff.1 h
  rw [List.drop_eq_getElem_cons h1, ringsOf, List.countP_cons, ringsOf]
  omega
theorem ev_at {w : World} {A : Option Addr} {n k : Nat} {ps : List EvD} (h : SRow 4 EvD.cells w A n ps) (hk : k < n) :
    ∃ b off x, A = some ⟨b, off, none⟩ ∧ b < w.heap.size ∧ Hid (ps[k]? = some x) ∧ w.cell? ⟨b, off + k * 4, none⟩ = some (.int .i64 x.place) ∧ w.cell? ⟨b, off + k * 4 + 1, none⟩ = some (.string x.letter) ∧ w.cell? ⟨b, off + k * 4 + 2, none⟩ = some (.bool x.rung) ∧ w.cell? ⟨b, off + k * 4 + 3, none⟩ = some (.bool x.stopped) := by
  obtain ⟨b, off, x, e, hb, hx, hc⟩ := h.at_ hk
  exact ⟨b, off, x, e, hb, Lib.hid hx, hc 0 _ rfl, hc 1 _ rfl, hc 2 _ rfl, hc 3 _ rfl⟩

set_option maxRecDepth 100000 in
set_option maxHeartbeats 4000000 in
theorem locked_impl (c : CarriageD) (A : Option Addr) (n cc : Nat) (xs : List ActD) (w : World) (hg : c.good) (h : Acts w A n xs) (hn : n ≤ 1048576) (hx : ∀ x ∈ xs, x.good) :
    Calls Tryd.prog 16 #[.agg #[.int .i64 c.left, .int .i64 c.right, .int .i64 c.bell], .slice A n cc] w fun e w' => e = .returned (.tuple #[.int .i64 (lockedR c xs).1, .int .i64 (lockedR c xs).2]) ∧ Below w.heap.size w w' := by
  cases hcar : carOk c with
  | false =>
    have hok : (carOk c && actsOk xs) = false := by rw [hcar]; rfl
    rw [(typed_no hok).2.2]
    have hc1 := Lib.hid (fun W => car_impl c hcar W)
    clear hok hcar hx
    obtain ⟨left, right, bell⟩ := c
    go_enter Tryd.func16, Tryd.ntmps16
    go_wp2_with fail
    refine (hc1.out _).mono ?_
    rintro e w1 ⟨rfl, hb1⟩
    have hb4 := (below_a1 _ _).step hb1
    go_wp2
    (go_ret2; exact ⟨rfl, hb4⟩)
  | true =>
    have hc1 := Lib.hid (fun W => car_impl c hcar W)
    cases hacts : actsOk xs with
    | false =>
      have hok : (carOk c && actsOk xs) = false := by rw [hacts, Bool.and_false]
      rw [(typed_no hok).2.2]
      have hl1 := Lib.hid (fun W (hS : Acts W A n xs) => acts_impl A n cc xs W hS hn hx hacts)
      clear hok hcar hx hacts
      obtain ⟨left, right, bell⟩ := c
      go_enter Tryd.func16, Tryd.ntmps16
      go_wp2_with fail
      refine (hc1.out _).mono ?_
      rintro e w1 ⟨rfl, hb1⟩
      have hb2 := (below_a1 _ _).step hb1
      have hS := h.below hb2
      go_wp2_with fail
      refine (hl1.out _ hS).mono ?_
      rintro e w2 ⟨rfl, hb3⟩
      have hb4 := hb2.step hb3
      go_wp2
      (go_ret2; exact ⟨rfl, hb4⟩)
    | true =>
      have hok : (carOk c && actsOk xs) = true := by rw [hcar, hacts]; rfl
      have hl1 := Lib.hid (fun W (hS : Acts W A n xs) => acts_impl A n cc xs W hS hn hx hacts)
      have hlen : n ≤ 200 := by rw [← h.1]; exact of_decide_eq_true (Bool.and_eq_true _ _ ▸ hacts).2
      have hfl := Lib.hid (fun W (hS : Acts W A n xs) => follow_impl c A n cc xs W hcar hS hlen (acts_mem hacts))
      have hfin := Lib.hid (ran_fine hcar hacts)
      have hle := ran_le c xs
      have hEl := evs_len c xs (startS c)
      have hEs := Lib.hid (evs_stopped c xs (startS c))
      have hEr := evs_rings c xs (startS c)
      have hEo := Lib.hid (evs_out c xs (startS c) (acts_mem hacts))
      rw [h.1] at hle
      rw [show runS c (startS c) xs = ran c xs from rfl, h.1] at hEl
      rw [show runS c (startS c) xs = ran c xs from rfl] at hEs hEr hEo
      rw [(typed_yes hok).2.2]
      try rw [h.1]
      generalize evs c (startS c) xs = E at *
      generalize ran c xs = p at *
      clear hx hacts hcar hok
      obtain ⟨p1, p2⟩ := p
      simp only at hle hEl hEr
      generalize hq : (if p2 < n then ((p2 : Int), (0 : Int)) else (0, 3)) = q at *
      replace hq := Lib.hid hq
      obtain ⟨left, right, bell⟩ := c
      go_enter Tryd.func16, Tryd.ntmps16
      go_wp2_with fail
      refine (hc1.out _).mono ?_
      rintro e w1 ⟨rfl, hb1⟩
      have d0 : w1.cell? ⟨w.heap.size, 0, none⟩ = some (.int .i64 left) := cell_step (cell_new rfl rfl) hb1
      have d1 : w1.cell? ⟨w.heap.size, 1, none⟩ = some (.int .i64 right) := cell_step (cell_new rfl rfl) hb1
      have d2 : w1.cell? ⟨w.heap.size, 2, none⟩ = some (.int .i64 bell) := cell_step (cell_new rfl rfl) hb1
      have hb2 := (below_a1 _ _).step hb1
      have hS := h.below hb2
      go_wp2_with fail
      refine (hl1.out _ hS).mono ?_
      rintro e w2 ⟨rfl, hb3⟩
      replace d0 := cell_step d0 hb3
      replace d1 := cell_step d1 hb3
      replace d2 := cell_step d2 hb3
      have hS2 := hS.below hb3
      have hb4 := hb2.step hb3
      clear hb1 hb2 hb3 hS h hc1 hl1
      go_wp2_with fail
      refine (hfl.out _ hS2).mono ?_
      rintro e w3 ⟨AE, nE, cE, rfl, hnE, hO, hb5⟩
      have hB := Lib.hid (hb4.step hb5)
      have hz2 := hb4.size
      have hR := hO.srow
      have hnl := hR.1
      clear d0 d1 d2 hb4 hb5 hfl hS2 hO
      have hEs2 : Hid (∀ i e, E[i]? = some e → e.stopped = decide (i = p2)) := hEs
      clear hEs hEr hEo
      generalize hN : w.heap.size = N at *
      replace hN := Lib.hid hN
      replace hEl := Lib.hid hEl
      go_wp2
      go_loopw [26] (fun i wr => ∃ k : Nat, k ≤ nE ∧ i = .int .i64 k ∧ Below w3.heap.size w3 wr ∧ (k ≤ p2)) (fun i _ => nE - (intOf i).toNat)
      case atStart => exact ⟨0, by omega, rfl, Below.refl _ _, by omega⟩
      case round =>
        obtain ⟨k, hk, rfl, hbw, hp⟩ := hrel
        by_cases hlt : k < nE
        · obtain ⟨b, off, x, rfl, hb, hxs, c0, c1, c2, c3⟩ := ev_at (hR.below hbw) hlt
          have hs := hEs2.out k x hxs.out
          have hk0 : (0 : Int) ≤ (k : Int) := Int.natCast_nonneg _
          have hk1 : (k : Int) < (nE : Int) := by omega
          by_cases he : k = p2
          · rw [decide_eq_true he] at hs
            rw [hs] at c3
            have hl : p2 < n := by
              have := hEl.out
              rw [hnl] at this
              split at this <;> omega
            have hq2 : Hid (q = ((p2 : Int), 0)) := Lib.hid (by rw [← hq.out, if_pos hl])
            obtain rfl := he
            clear hs
            go_wp2
            go_ret2
            obtain rfl := hN.out
            exact ⟨by rw [hq2.out]; rfl, hB.out.step (hbw.step (below_a1 _ _))⟩
          · rw [decide_eq_false he] at hs
            rw [hs] at c3
            clear hs
            go_wp2
            go_roundw
            case rel => exact ⟨k + 1, by omega, by go_num, hbw.step (below_a1 _ _), by omega⟩
            case measure => simp [intOf]; omega
        · obtain rfl : k = nE := by omega
          have hl : ¬ p2 < n := by
            have := hEl.out
            rw [hnl] at this
            split at this <;> omega
          have hq2 : Hid (q = (0, 3)) := Lib.hid (by rw [← hq.out, if_neg hl])
          go_wp2
          go_ret2
          obtain rfl := hN.out
          exact ⟨by rw [hq2.out]; rfl, hB.out.step hbw⟩

set_option maxRecDepth 100000 in
set_option maxHeartbeats 4000000 in
theorem bells_impl (c : CarriageD) (A : Option Addr) (n cc : Nat) (xs : List ActD) (w : World) (hg : c.good) (h : Acts w A n xs) (hn : n ≤ 1048576) (hx : ∀ x ∈ xs, x.good) :
    Calls Tryd.prog 18 #[.agg #[.int .i64 c.left, .int .i64 c.right, .int .i64 c.bell], .slice A n cc] w fun e w' => e = .returned (.tuple #[.int .i64 (bellsR c xs).1, .int .i64 (bellsR c xs).2]) ∧ Below w.heap.size w w' := by
  cases hcar : carOk c with
  | false =>
    have hok : (carOk c && actsOk xs) = false := by rw [hcar]; rfl
    rw [(typed_no hok).2.1]
    have hc1 := Lib.hid (fun W => car_impl c hcar W)
    clear hok hcar hx
    obtain ⟨left, right, bell⟩ := c
    go_enter Tryd.func18, Tryd.ntmps18
    go_wp2_with fail
    refine (hc1.out _).mono ?_
    rintro e w1 ⟨rfl, hb1⟩
    have hb4 := (below_a1 _ _).step hb1
    go_wp2
    (go_ret2; exact ⟨rfl, hb4⟩)
  | true =>
    have hc1 := Lib.hid (fun W => car_impl c hcar W)
    cases hacts : actsOk xs with
    | false =>
      have hok : (carOk c && actsOk xs) = false := by rw [hacts, Bool.and_false]
      rw [(typed_no hok).2.1]
      have hl1 := Lib.hid (fun W (hS : Acts W A n xs) => acts_impl A n cc xs W hS hn hx hacts)
      clear hok hcar hx hacts
      obtain ⟨left, right, bell⟩ := c
      go_enter Tryd.func18, Tryd.ntmps18
      go_wp2_with fail
      refine (hc1.out _).mono ?_
      rintro e w1 ⟨rfl, hb1⟩
      have hb2 := (below_a1 _ _).step hb1
      have hS := h.below hb2
      go_wp2_with fail
      refine (hl1.out _ hS).mono ?_
      rintro e w2 ⟨rfl, hb3⟩
      have hb4 := hb2.step hb3
      go_wp2
      (go_ret2; exact ⟨rfl, hb4⟩)
    | true =>
      have hok : (carOk c && actsOk xs) = true := by rw [hcar, hacts]; rfl
      have hl1 := Lib.hid (fun W (hS : Acts W A n xs) => acts_impl A n cc xs W hS hn hx hacts)
      have hlen : n ≤ 200 := by rw [← h.1]; exact of_decide_eq_true (Bool.and_eq_true _ _ ▸ hacts).2
      have hfl := Lib.hid (fun W (hS : Acts W A n xs) => follow_impl c A n cc xs W hcar hS hlen (acts_mem hacts))
      have hfin := Lib.hid (ran_fine hcar hacts)
      have hle := ran_le c xs
      have hEl := evs_len c xs (startS c)
      have hEs := Lib.hid (evs_stopped c xs (startS c))
      have hEr := evs_rings c xs (startS c)
      have hEo := Lib.hid (evs_out c xs (startS c) (acts_mem hacts))
      rw [h.1] at hle
      rw [show runS c (startS c) xs = ran c xs from rfl, h.1] at hEl
      rw [show runS c (startS c) xs = ran c xs from rfl] at hEs hEr hEo
      rw [(typed_yes hok).2.1]
      try rw [h.1]
      generalize evs c (startS c) xs = E at *
      generalize ran c xs = p at *
      clear hx hacts hcar hok
      obtain ⟨p1, p2⟩ := p
      simp only at hle hEl hEr
      obtain ⟨left, right, bell⟩ := c
      go_enter Tryd.func18, Tryd.ntmps18
      go_wp2_with fail
      refine (hc1.out _).mono ?_
      rintro e w1 ⟨rfl, hb1⟩
      have d0 : w1.cell? ⟨w.heap.size, 0, none⟩ = some (.int .i64 left) := cell_step (cell_new rfl rfl) hb1
      have d1 : w1.cell? ⟨w.heap.size, 1, none⟩ = some (.int .i64 right) := cell_step (cell_new rfl rfl) hb1
      have d2 : w1.cell? ⟨w.heap.size, 2, none⟩ = some (.int .i64 bell) := cell_step (cell_new rfl rfl) hb1
      have hb2 := (below_a1 _ _).step hb1
      have hS := h.below hb2
      go_wp2_with fail
      refine (hl1.out _ hS).mono ?_
      rintro e w2 ⟨rfl, hb3⟩
      replace d0 := cell_step d0 hb3
      replace d1 := cell_step d1 hb3
      replace d2 := cell_step d2 hb3
      have hS2 := hS.below hb3
      have hb4 := hb2.step hb3
      clear hb1 hb2 hb3 hS h hc1 hl1
      go_wp2_with fail
      refine (hfl.out _ hS2).mono ?_
      rintro e w3 ⟨AE, nE, cE, rfl, hnE, hO, hb5⟩
      have hB := Lib.hid (hb4.step hb5)
      have hz2 := hb4.size
      have hR := hO.srow
      have hnl := hR.1
      clear d0 d1 d2 hb4 hb5 hfl hS2 hO
      have hEr2 : Hid (ringsOf E = p1.bells) := Lib.hid (by have := hEr; simp [startS] at this; exact this)
      clear hEs hEr hEo hEl
      generalize hN : w.heap.size = N at *
      replace hN := Lib.hid hN
      go_wp2
      go_loopw [6, 27] (fun v i wr => ∃ k m : Nat, k ≤ nE ∧ i = .int .i64 k ∧ v = .int .i64 m ∧ m ≤ k ∧ Below w3.heap.size w3 wr ∧ m + ringsOf (E.drop k) = p1.bells) (fun _ i _ => nE - (intOf i).toNat)
      case atStart => exact ⟨0, 0, by omega, rfl, rfl, by omega, Below.refl _ _, by simpa using hEr2.out⟩
      case round =>
        obtain ⟨k, m, hk, rfl, rfl, hm, hbw, hp⟩ := hrel
        replace hp := Lib.hid hp
        by_cases hlt : k < nE
        · obtain ⟨b, off, x, rfl, hb, hxs, c0, c1, c2, c3⟩ := ev_at (hR.below hbw) hlt
          have hs := rings_drop hxs.out
          have hk0 : (0 : Int) ≤ (k : Int) := Int.natCast_nonneg _
          have hk1 : (k : Int) < (nE : Int) := by omega
          cases hr : x.rung with
          | true =>
            rw [hr] at c2 hs
            have hnx : Hid (m + 1 + ringsOf (E.drop (k + 1)) = p1.bells) := Lib.hid (by have := hp.out; rw [hs] at this; simp at this; omega)
            clear hs hr
            go_wp2
            go_roundw
            case rel => exact ⟨k + 1, m + 1, by omega, by go_num, by go_num, by omega, hbw.step (below_a1 _ _), hnx.out⟩
            case measure => simp [intOf]; omega
          | false =>
            rw [hr] at c2 hs
            have hnx : Hid (m + ringsOf (E.drop (k + 1)) = p1.bells) := Lib.hid (by have := hp.out; rw [hs] at this; simpa using this)
            clear hs hr
            go_wp2
            go_roundw
            case rel => exact ⟨k + 1, m, by omega, by go_num, rfl, by omega, hbw.step (below_a1 _ _), hnx.out⟩
            case measure => simp [intOf]; omega
        · obtain rfl : k = nE := by omega
          have hq : Hid (m = p1.bells) := Lib.hid (by have := hp.out; rw [List.drop_of_length_le (by omega)] at this; simpa [ringsOf] using this)
          go_wp2
          go_ret2
          obtain rfl := hN.out
          exact ⟨by rw [← hq.out]; rfl, hB.out.step hbw⟩
end Go.Proofs.YtiopeheockajaaaDoor
