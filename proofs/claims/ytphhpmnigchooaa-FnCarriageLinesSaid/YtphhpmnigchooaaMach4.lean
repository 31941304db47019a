/- The model's run of acts, and what it tells: TypeActs, BellsOf, LockedAt. -/
import Derived.Test.YtphhpmnigchooaaMach3
namespace Go.Proofs.Ytphhpmnigchooaa
open Go.RowKit Go.ChangeShapes Go.WideShapes Go.Deep
set_option linter.unusedVariables false
set_option linter.unusedSimpArgs false

/-- The states that acts lead through: what the steps ask of them. -/
def StD.fine (s : StD) (k : Nat) : Prop := (0 ≤ s.at_ ∧ s.at_ ≤ 300) ∧ s.bells ≤ k ∧ s.out.length ≤ k
theorem actS_fine {c : CarriageD} {s s' : StD} {a : ActD} {k : Nat} (hc : carOk c = true) (hs : s.fine k) (h : actS c s a = some s') : s'.fine (k + 1) := by
  obtain ⟨⟨l0, l1⟩, ⟨r0, r1⟩, r2, ⟨b0, b1⟩⟩ := carOk_iff.1 hc
  obtain ⟨⟨s0, s1⟩, s2, s3⟩ := hs
  have hst : 0 ≤ stepOf a.kind := by unfold stepOf; split; omega; split <;> omega
  unfold actS at h
  split at h
  · split at h
    · cases h
    · rename_i hn
      cases h
      refine ⟨⟨by simp only; omega, by simp only; omega⟩, ?_, ?_⟩
      · simp only
        split <;> omega
      · simp only
        split
        · simp; omega
        · omega
  · split at h
    · cases h
      exact ⟨⟨by simp only; omega, by simp only; omega⟩, by simp only; omega, by simp only; omega⟩
    · split at h
      · cases h
        exact ⟨⟨s0, s1⟩, by simp only; omega, by simp only; omega⟩
      · cases h
        exact ⟨⟨l0, l1⟩, by simp only; omega, by simp only; omega⟩
theorem start_fine {c : CarriageD} (hc : carOk c = true) : (startS c).fine 0 := by
  obtain ⟨⟨l0, l1⟩, _⟩ := carOk_iff.1 hc
  exact ⟨⟨l0, l1⟩, Nat.le_refl _, Nat.le_refl _⟩
theorem runS_fine {c : CarriageD} (hc : carOk c = true) : ∀ (l : List ActD) (s : StD) (k : Nat), s.fine k → (runS c s l).1.fine (k + l.length)
  | [], s, k, h => h
  | a :: l, s, k, h => by
    unfold runS
    cases ha : actS c s a with
    | none => exact ⟨h.1, by have := h.2.1; simp only; omega, by have := h.2.2; simp only; omega⟩
    | some s' =>
      have := runS_fine hc l s' (k + 1) (actS_fine hc h ha)
      simp only [List.length_cons]
      rw [show k + (l.length + 1) = k + 1 + l.length by omega]
      exact this
theorem ran_fine {c : CarriageD} {l : List ActD} (hc : carOk c = true) (hl : actsOk l = true) : (ran c l).1.fine 200 := by
  have h := runS_fine hc l (startS c) 0 (start_fine hc)
  have h2 : l.length ≤ 200 := of_decide_eq_true (Bool.and_eq_true _ _ ▸ hl).2
  exact ⟨h.1, by have := h.2.1; simp only [ran]; omega, by have := h.2.2; simp only [ran]; omega⟩
theorem acts_mem {l : List ActD} (h : actsOk l = true) : ∀ x ∈ l, actOk x = true := List.all_eq_true.1 (Bool.and_eq_true _ _ ▸ h).1
theorem actOk_kind {x : ActD} (h : actOk x = true) : x.kind = 0 ∨ x.kind = 1 ∨ x.kind = 2 ∨ x.kind = 3 ∨ x.kind = 4 ∨ x.kind = 5 := by
  unfold actOk at h
  split at h
  · rename_i h0; exact .inl h0
  · have := isIn_iff.1 (Bool.and_eq_true _ _ ▸ h).1
    omega

/-- The model's act, of any kind. -/
theorem act_spec (c : CarriageD) (s : StD) (x : ActD) (R b off base : Nat) (L : Value) (w : World) (hM : Mach w base R c s L) (hc : carOk c = true) (hs : 0 ≤ s.at_ ∧ s.at_ ≤ 300) (hbl : s.bells ≤ 1000) (hlen : s.out.length ≤ 1000) (hz : base ≤ w.heap.size)
    (c0 : w.cell? ⟨b, off, none⟩ = some (.int .i64 x.kind)) (c1 : w.cell? ⟨b, off + 1, none⟩ = some (.string x.letter)) (hbr : b < base) (hx : actOk x = true) :
    Calls Try.prog 42 #[.pointer (some ⟨R, 0, none⟩), .pointer (some ⟨b, off, none⟩)] w (ActOut base R c s x L w) := by
  obtain ⟨kind, letter⟩ := x
  rcases actOk_kind hx with h | h | h | h | h | h <;> simp only at h <;> subst h
  · exact act0_spec c s letter R b off base L w hM hc hs hbl hlen hz c0 c1 hbr
  · exact act1_spec c s letter R b off base L w hM hc hs hbl hlen hz c0 c1 hbr
  · exact act2_spec c s letter R b off base L w hM hc hs hbl hlen hz c0 c1 hbr
  · exact act3_spec c s letter R b off base L w hM hc hs hbl hlen hz c0 c1 hbr
  · exact act4_spec c s letter R b off base L w hM hc hs hbl hlen hz c0 c1 hbr
  · exact act5_spec c s letter R b off base L w hM hc hs hbl hlen hz c0 c1 hbr

theorem mach_new (w : World) (left right bell : Int) : Mach (((w.alloc (.cells #[.int .i64 left, .int .i64 right, .int .i64 bell] 25)).alloc (.cells #[] 41)).alloc (.cells #[.int .i64 left, .int .i64 right, .int .i64 bell, .int .i64 left, .bool false, .int .i64 0, .slice (some ⟨w.heap.size + 1, 0, none⟩) 0 0] 75)) w.heap.size (w.heap.size + 1 + 1) ⟨left, right, bell⟩ (startS ⟨left, right, bell⟩) (.slice (some ⟨w.heap.size + 1, 0, none⟩) 0 0) := by
  refine ⟨by omega, ⟨fun i => (#[Value.int .i64 left, .int .i64 right, .int .i64 bell, .int .i64 left, .bool false, .int .i64 0, .slice (some ⟨w.heap.size + 1, 0, none⟩) 0 0][i]?).getD undef, ⟨#[Value.int .i64 left, .int .i64 right, .int .i64 bell, .int .i64 left, .bool false, .int .i64 0, .slice (some ⟨w.heap.size + 1, 0, none⟩) 0 0], ?_, rfl, fun i hi => ?_⟩, rfl, rfl, rfl, rfl, rfl, rfl, rfl⟩, by simp [startS], .inr ⟨w.heap.size + 1, 0, #[], by simp [startS], by omega, ?_, by simp [startS], by simp, by simp, by simp [startS]⟩⟩
  · have := heap_alloc_new (((w.alloc (.cells #[.int .i64 left, .int .i64 right, .int .i64 bell] 25)).alloc (.cells #[] 41))) (.cells #[.int .i64 left, .int .i64 right, .int .i64 bell, .int .i64 left, .bool false, .int .i64 0, .slice (some ⟨w.heap.size + 1, 0, none⟩) 0 0] 75)
    simpa using this
  · match i, hi with
    | 0, _ => rfl
    | 1, _ => rfl
    | 2, _ => rfl
    | 3, _ => rfl
    | 4, _ => rfl
    | 5, _ => rfl
    | 6, _ => rfl
  · have := heap_alloc_new ((w.alloc (.cells #[.int .i64 left, .int .i64 right, .int .i64 bell] 25))) (.cells #[] 41)
    have h2 := (below_a1 ((w.alloc (.cells #[.int .i64 left, .int .i64 right, .int .i64 bell] 25)).alloc (.cells #[] 41)) (.cells #[.int .i64 left, .int .i64 right, .int .i64 bell, .int .i64 left, .bool false, .int .i64 0, .slice (some ⟨w.heap.size + 1, 0, none⟩) 0 0] 75)).block (w.heap.size + 1) (by simp)
    rw [h2]
    simpa using this
theorem ActOut.none_ {base R : Nat} {c : CarriageD} {s : StD} {x : ActD} {L : Value} {w w' : World} {e : Ending} (h : ActOut base R c s x L w e w') (ha : actS c s x = none) : e = .returned (.bool false) ∧ Below base w w' ∧ Mach w' base R c s L := by
  unfold ActOut at h; rw [ha] at h; exact h
theorem ActOut.some_ {base R : Nat} {c : CarriageD} {s s' : StD} {x : ActD} {L : Value} {w w' : World} {e : Ending} (h : ActOut base R c s x L w e w') (ha : actS c s x = some s') : e = .returned (.bool true) ∧ Below base w w' ∧ ∃ L', Mach w' base R c s' L' := by
  unfold ActOut at h; rw [ha] at h; exact h
set_option maxRecDepth 100000 in
set_option maxHeartbeats 1600000 in
theorem run_spec (c : CarriageD) (A : Option Addr) (n cc : Nat) (xs : List ActD) (w : World) (hc : carOk c = true) (h : Acts w A n xs) (hn : n ≤ 200) (hx : ∀ x ∈ xs, actOk x = true) :
    Calls Try.prog 38 #[.agg #[.int .i64 c.left, .int .i64 c.right, .int .i64 c.bell], .slice A n cc] w fun e w' => ∃ R L, e = .returned (.tuple #[.pointer (some ⟨R, 0, none⟩), .int .i64 ((ran c xs).2 : Int)]) ∧ Below w.heap.size w w' ∧ Mach w' w.heap.size R c (ran c xs).1 L := by
  have hact := Lib.hid (fun (s : StD) (x : ActD) (R b off base : Nat) (L : Value) (w : World) (hM : Mach w base R c s L) (hs : 0 ≤ s.at_ ∧ s.at_ ≤ 300) (hbl : s.bells ≤ 1000) (hlen : s.out.length ≤ 1000) (hz : base ≤ w.heap.size) (c0 : w.cell? ⟨b, off, none⟩ = some (.int .i64 x.kind)) (c1 : w.cell? ⟨b, off + 1, none⟩ = some (.string x.letter)) (hbr : b < base) (hx : actOk x = true) => act_spec c s x R b off base L w hM hc hs hbl hlen hz c0 c1 hbr hx)
  have hfin := Lib.hid (fun (s s' : StD) (a : ActD) (k : Nat) (hs : s.fine k) (hh : actS c s a = some s') => actS_fine hc hs hh)
  have hst := Lib.hid (start_fine hc)
  replace hx := Lib.hid hx
  obtain ⟨p, hp⟩ : ∃ p, ran c xs = p := ⟨_, rfl⟩
  have hp2 : Hid (p.1 = (runS c (startS c) (xs.drop 0)).1 ∧ p.2 = (runS c (startS c) (xs.drop 0)).2 + 0) := Lib.hid (by rw [← hp]; exact ⟨rfl, rfl⟩)
  rw [hp]
  obtain ⟨p1, p2⟩ := p
  clear hp hc
  obtain ⟨left, right, bell⟩ := c
  go_enter Try.func38, Try.ntmps38
  go_wp2
  have hM0 := Lib.hid (mach_new w left right bell)
  have hB0 := Lib.hid (below_a3 w (.cells #[.int .i64 left, .int .i64 right, .int .i64 bell] 25) (.cells #[] 41) (.cells #[.int .i64 left, .int .i64 right, .int .i64 bell, .int .i64 left, .bool false, .int .i64 0, .slice (some ⟨w.heap.size + 1, 0, none⟩) 0 0] 75))
  obtain ⟨w0, hw0⟩ : ∃ w0, (((w.alloc (.cells #[.int .i64 left, .int .i64 right, .int .i64 bell] 25)).alloc (.cells #[] 41)).alloc (.cells #[.int .i64 left, .int .i64 right, .int .i64 bell, .int .i64 left, .bool false, .int .i64 0, .slice (some ⟨w.heap.size + 1, 0, none⟩) 0 0] 75)) = w0 := ⟨_, rfl⟩
  rw [hw0] at hM0 hB0 ⊢
  clear hw0
  generalize hRR : w.heap.size + 1 + 1 = R at *
  replace hRR := Lib.hid hRR
  go_loopw [7] (fun i wr => ∃ (k : Nat) (s : StD) (L : Value), k ≤ n ∧ i = .int .i64 k ∧ Below w.heap.size w wr ∧ Mach wr w.heap.size R ⟨left, right, bell⟩ s L ∧ s.fine k ∧ p1 = (runS ⟨left, right, bell⟩ s (xs.drop k)).1 ∧ p2 = (runS ⟨left, right, bell⟩ s (xs.drop k)).2 + k) (fun i _ => n - (intOf i).toNat)
  case atStart => exact ⟨0, _, _, by omega, rfl, hB0.out, hM0.out, hst.out, hp2.out.1, hp2.out.2⟩
  case round =>
    obtain ⟨k, s, L, hk, rfl, hbw, hM, hfk, e1, e2⟩ := hrel
    replace e1 := Lib.hid e1
    replace e2 := Lib.hid e2
    replace hM := Lib.hid hM
    by_cases hlt : k < n
    · obtain ⟨b, off, x, rfl, hb, hxs, c0, c1⟩ := act_at h hlt
      replace c0 := (hbw.cell (p := ⟨b, off + k * 2, none⟩) hb).trans c0
      replace c1 := (hbw.cell (p := ⟨b, off + k * 2 + 1, none⟩) hb).trans c1
      have hk0 : (0 : Int) ≤ (k : Int) := Int.natCast_nonneg _
      have hk1 : (k : Int) < (n : Int) := by omega
      obtain ⟨hs1, hs2, hs3⟩ := hfk
      have hcall := hact.out s x R b (off + k * 2) w.heap.size L wr hM.out hs1 (by omega) (by omega) hbw.size c0 c1 hb (hx.out x (List.mem_of_getElem? hxs.out))
      have hwz := hbw.size
      cases ha : actS ⟨left, right, bell⟩ s x with
      | none =>
        have hst2 := runS_stop hxs.out ha
        have hq1 : Hid (p1 = s) := Lib.hid (by rw [e1.out, hst2])
        have hq2 : Hid (p2 = k) := Lib.hid (by rw [e2.out, hst2]; simp)
        have hc1 := Lib.hid (hcall.mono (fun e w' (h : ActOut _ _ _ _ _ _ _ _ _) => h.none_ ha))
        clear hcall ha hst2
        go_wp2_with fail
        refine (hc1.out).mono ?_
        rintro e w1 ⟨rfl, hb1, hM1⟩
        go_wp2
        go_ret2
        obtain rfl := hq1.out
        obtain rfl := hq2.out
        exact ⟨R, L, rfl, hbw.trans hb1, hM1⟩
      | some s' =>
        have hst2 := runS_go hxs.out ha
        have hq1 : Hid (p1 = (runS ⟨left, right, bell⟩ s' (xs.drop (k + 1))).1) := Lib.hid (by rw [e1.out, hst2])
        have hq2 : Hid (p2 = (runS ⟨left, right, bell⟩ s' (xs.drop (k + 1))).2 + (k + 1)) := Lib.hid (by rw [e2.out, hst2]; simp only; omega)
        have hf2 := Lib.hid (hfin.out s s' x k ⟨hs1, hs2, hs3⟩ ha)
        have hc1 := Lib.hid (hcall.mono (fun e w' (h : ActOut _ _ _ _ _ _ _ _ _) => h.some_ ha))
        clear hcall ha hst2
        go_wp2_with fail
        refine (hc1.out).mono ?_
        rintro e w1 ⟨rfl, hb1, L', hM1⟩
        go_wp2
        go_roundw
        case rel => exact ⟨k + 1, s', L', by omega, by go_num, hbw.trans hb1, hM1, hf2.out, hq1.out, hq2.out⟩
        case measure => simp [intOf]; omega
    · obtain rfl : k = n := by omega
      have hst2 := runS_end (c := ⟨left, right, bell⟩) (s := s) h.1
      have hq1 : Hid (p1 = s) := Lib.hid (by rw [e1.out, hst2])
      have hq2 : Hid (p2 = k) := Lib.hid (by rw [e2.out, hst2]; simp)
      clear hst2
      go_wp2
      go_ret2
      obtain rfl := hq1.out
      obtain rfl := hq2.out
      exact ⟨R, L, rfl, hbw, hM.out⟩
end Go.Proofs.Ytphhpmnigchooaa
