/- Colours: which runes are none, by the program and the library. -/
import Derived.Test.YtceedmejmmoepaaKc0
import Derived.WalkMore
import Derived.RangeFuncNested
namespace Go.Proofs.Ytceedmejmmoepaa
open Go.RowKit Go.ChangeShapes Go.WideShapes Go.Deep
set_option linter.unusedVariables false
set_option linter.unusedSimpArgs false

theorem decode_hi (s : ByteArray) (pos : Nat) (h : 128 ≤ (s.get! pos).toNat) : 128 ≤ (Utf8.decode s pos).1 := by
  have h' : 128 ≤ (s.get! (pos + 0)).toNat := h
  simp only [Utf8.decode]
  repeat' split
  all_goals simp_all [Utf8.runeError]
  all_goals omega
theorem encode_hi (r : Int) (h : 128 ≤ r) : (Utf8.encode r).size = 2 ∨ (Utf8.encode r).size = 3 ∨ (Utf8.encode r).size = 4 := by
  simp only [Utf8.encode]
  have h2 : 128 ≤ (if Utf8.valid r then r.toNat else Utf8.runeError) := by
    split
    · omega
    · simp [Utf8.runeError]
  generalize (if Utf8.valid r then r.toNat else Utf8.runeError) = c at *
  rw [if_neg (by omega)]
  split
  · exact .inl rfl
  · split
    · exact .inr (.inl rfl)
    · exact .inr (.inr rfl)
theorem encode_last (r : Int) (h : 128 ≤ r) (k : Nat) (hk : k + 1 = (Utf8.encode r).size) : ∃ c : UInt8, (Utf8.encode r).data.toList[k]? = some c ∧ 128 ≤ c.toNat := by
  revert hk
  simp only [Utf8.encode]
  have h2 : 128 ≤ (if Utf8.valid r then r.toNat else Utf8.runeError) := by
    split
    · omega
    · simp [Utf8.runeError]
  generalize (if Utf8.valid r then r.toNat else Utf8.runeError) = c at *
  have hb : ∀ x : Nat, 128 ≤ (UInt8.ofNat (128 + x % 64)).toNat := fun x => by
    rw [UInt8.toNat_ofNat']
    omega
  rw [if_neg (by omega)]
  split
  · intro hk
    obtain rfl : k = 1 := by simpa [ByteArray.size] using hk
    exact ⟨_, rfl, hb c⟩
  · split
    · intro hk
      obtain rfl : k = 2 := by simpa [ByteArray.size] using hk
      exact ⟨_, rfl, hb c⟩
    · intro hk
      obtain rfl : k = 3 := by simpa [ByteArray.size] using hk
      exact ⟨_, rfl, hb c⟩
/-- The text of the colours. -/
def colS : ByteArray := ⟨#[98, 114, 32]⟩
theorem col_asc (s : ByteArray) (hs : s = ⟨#[98, 114, 32]⟩) : s.size = 3 ∧ ∀ pos (h : pos < s.size), (s[pos]'h).toNat < 128 := by
  subst hs
  refine ⟨rfl, fun pos h => ?_⟩
  have h3 : pos < 3 := h
  match pos, h3 with
  | 0, _ => exact (show UInt8.toNat 98 < 128 by decide)
  | 1, _ => exact (show UInt8.toNat 114 < 128 by decide)
  | 2, _ => exact (show UInt8.toNat 32 < 128 by decide)
set_option maxRecDepth 100000 in
set_option maxHeartbeats 3200000 in
theorem rune_err14 (w : World) : Calls Try.prog 61 #[.string ⟨#[98, 114, 32]⟩, .int .i32 65533] w fun e w' => e = .returned (.int .i64 (-1)) ∧ Below w.heap.size w w' := by
  generalize hs : (⟨#[98, 114, 32]⟩ : ByteArray) = s
  obtain ⟨hsz, hasc⟩ := col_asc s hs.symm
  replace hasc := Lib.hid hasc
  clear hs
  go_enter Try.func61, Try.ntmps61
  go_wp2
  go_loopw [5, 6] (fun _ _ wr => ∃ pos : Nat, wr.heap[w.heap.size]? = some (.stringIter s pos) ∧ pos ≤ 3 ∧ Below w.heap.size w wr) (fun _ _ wr => 3 - wr.iterPos w.heap.size)
  case atStart => exact ⟨0, World.iter_heap w _ 0, by omega, below_a1 _ _⟩
  case round =>
    rename World => wr
    obtain ⟨pos, hit, hp, hbw⟩ := hrel
    have hpos : wr.iterPos w.heap.size = pos := by simp only [World.iterPos, hit]
    by_cases hlt : pos < s.size
    · have hc := hasc.out pos hlt
      have hnx : ∀ ty, (Instr.next (.pointer (some ⟨w.heap.size, 0, none⟩)) true ty).run Try.prog wr = _ := fun ty => Lib.run_next_ascii_at wr w.heap.size s pos ty hit hlt hc
      have hit2 := Lib.iterAt_heap wr w.heap.size s pos (pos + 1) hit
      have hbw2 : Hid (Below w.heap.size w (wr.iterAt w.heap.size s (pos + 1))) := Lib.hid (hbw.grown (grownBy_putObj' wr w.heap.size _) hbw.size (fun k e => by cases e; exact Nat.le_refl _))
      have g1 : (((s[pos]'hlt).toNat : Int) == 65533) = false := beq_eq_false_iff_ne.2 (by omega)
      have g2 : ((s[pos]'hlt).toNat == 65533) = false := beq_eq_false_iff_ne.2 (by omega)
      generalize hwi : wr.iterAt w.heap.size s (pos + 1) = wi at *
      have hip2 : wi.iterPos w.heap.size = pos + 1 := by simp only [World.iterPos, hit2]
      clear hwi hit hbw
      go_wp2
      go_roundw
      case rel => exact ⟨pos + 1, hit2, by omega, hbw2.out⟩
      case measure => rw [hip2, hpos]; omega
    · have hnx : ∀ ty, (Instr.next (.pointer (some ⟨w.heap.size, 0, none⟩)) true ty).run Try.prog wr = _ := fun ty => Lib.run_next_end_at wr w.heap.size s pos ty hit hlt
      go_wp2
      go_ret
      exact ⟨rfl, hbw⟩
set_option maxRecDepth 100000 in
set_option maxHeartbeats 3200000 in
theorem rune_bad14 (r : Int) (h0 : 128 ≤ r) (h1 : r ≠ 65533) (hv : Lib.validRune r = false) (w : World) : Calls Try.prog 61 #[.string ⟨#[98, 114, 32]⟩, .int .i32 r] w fun e w' => e = .returned (.int .i64 (-1)) ∧ Below w.heap.size w w' := by
  have hc := Lib.hid (fun W => Try.utf8_ValidRune r W)
  rw [hv] at hc
  have g0 : decide ((0 : Int) ≤ r) = true := decide_eq_true (by omega)
  have g1 : decide (r < 128) = false := decide_eq_false (by omega)
  have g2 : (r == 65533) = false := beq_eq_false_iff_ne.2 h1
  clear h0 h1 hv
  go_enter Try.func61, Try.ntmps61
  go_wp2_with fail
  refine (hc.out _).mono ?_
  rintro e w1 ⟨rfl, rfl⟩
  go_wp2
  go_ret
  exact ⟨rfl, Below.refl _ _⟩
set_option maxRecDepth 100000 in
set_option maxHeartbeats 3200000 in
theorem rune_good14 (r : Int) (h0 : 128 ≤ r) (h1 : r ≠ 65533) (hv : Lib.validRune r = true) (w : World) : Calls Try.prog 61 #[.string ⟨#[98, 114, 32]⟩, .int .i32 r] w fun e w' => e = .returned (.int .i64 (-1)) ∧ Below w.heap.size w w' := by
  have hc := Lib.hid (fun W => Try.utf8_ValidRune r W)
  rw [hv] at hc
  have g0 : decide ((0 : Int) ≤ r) = true := decide_eq_true (by omega)
  have g1 : decide (r < 128) = false := decide_eq_false (by omega)
  have g2 : (r == 65533) = false := beq_eq_false_iff_ne.2 h1
  have hsz := encode_hi r h0
  have hla := Lib.hid (encode_last r h0)
  have hcv := fun W => run_convert_int_string (P := Try.prog) W 21 9 .i32 r (by kernel_rfl) Try.underlying9
  generalize Utf8.encode r = rs at *
  clear h0 h1 hv
  rcases hsz with hsz | hsz | hsz
  · have hlt : 1 < rs.size := by omega
    obtain ⟨c, hc1, hc2⟩ := hla.out 1 (by omega)
    have hck : rs[1]'hlt = c := by
      have h := List.getElem?_eq_some_iff.1 hc1
      exact h.2
    have n1 : ((114 : Int) == ((rs[1]'hlt).toNat : Int)) = false := beq_eq_false_iff_ne.2 (by rw [hck]; omega)
    have n2 : (114 == (rs[1]'hlt).toNat) = false := beq_eq_false_iff_ne.2 (by rw [hck]; omega)
    have n3 : ((114 : Int) != ((rs[1]'hlt).toNat : Int)) = true := by rw [bne, n1]; rfl
    have n4 : (114 != (rs[1]'hlt).toNat) = true := by rw [bne, n2]; rfl
    have hix : Hid (∀ W, Calls Try.prog 63 #[.string ((⟨#[98, 114, 32]⟩ : ByteArray).extract 2 3), .int .u8 ((rs[1]'hlt).toNat : Int)] W fun e w' => e = .returned (.int .i64 (-1)) ∧ W = w') := Lib.hid (fun W => (Try.strings_IndexByte _ _ W).mono fun e w' h => by
      refine ⟨?_, h.2.symm⟩
      rw [h.1]
      have e1 : ((⟨#[98, 114, 32]⟩ : ByteArray).extract 2 3).data.toList = [32] := by decide +kernel
      rw [e1, hck]
      have e2 : ((c.toNat : Int)).toNat.toUInt8 = c := by simp
      rw [e2]
      have e3 : ¬ (32 : UInt8) = c := fun e => by subst e; revert hc2; decide
      simp [Lib.indexByte, e3])
    have n5 : ((((⟨#[98, 114, 32]⟩ : ByteArray)[1]'(by decide +kernel)).toNat : Int) != ((rs[1]'hlt).toNat : Int)) = true := n3
    have hwk : IntKind.i64.wrap 2 = 2 := IntWalk.i64_in _ (by omega)
    have hu0 : Hid (128 ≤ c.toNat) := Lib.hid hc2
    clear hc1 hc2 hck n1 n2
    go_enter Try.func61, Try.ntmps61
    go_wp2_with fail
    refine (hc.out _).mono ?_
    rintro e w1 ⟨rfl, rfl⟩
    go_wp2_with fail
    go_step3
    go_wp2_with fail
    refine wp_loop_rounds 1 ?_
    rw [rounds_succ]
    go_wp2_with fail
    go_step3
    go_wp2_with fail
    refine wp_region_held_drew (S := fun w' => Below w1.heap.size w1 w') (by kernel_rfl) ?_ (fun hHeld => ?_)
    · exact (Below.refl _ _).drew
    refine wpAnyH_take (i := 0) (v := ?va1U1_0) rfl (by kernel_rfl) (by kernel_rfl) (by kernel_rfl) (fun _ _ _ h => h) (Or.inl ⟨rfl, ?ya1U1_0⟩) (by assumption) ?_
    case ya1U1_0 => (intro w hSw; (try dsimp only at hSw); go_simp; first | done | with_reducible rfl)
    simp only [List.getElem_toArray, List.getElem_cons_succ, List.getElem_cons_zero, Act.put, List.setIfInBounds_toArray, List.set_cons_zero, List.set_cons_succ]
    refine wpAnyH_take (i := 1) (v := ?va1U1_1) rfl (by kernel_rfl) (by kernel_rfl) (by kernel_rfl) (fun _ _ _ h => h) (Or.inl ⟨rfl, ?ya1U1_1⟩) (by assumption) ?_
    case ya1U1_1 => (intro w hSw; (try dsimp only at hSw); go_simp; first | done | with_reducible rfl)
    simp only [List.getElem_toArray, List.getElem_cons_succ, List.getElem_cons_zero, Act.put, List.setIfInBounds_toArray, List.set_cons_zero, List.set_cons_succ]
    refine wpAnyH_take (i := 2) (v := ?va1U1_2) rfl (by kernel_rfl) (by kernel_rfl) (by kernel_rfl) (fun _ _ _ h => h) (Or.inl ⟨rfl, ?ya1U1_2⟩) (by assumption) ?_
    case ya1U1_2 => (intro w hSw; (try dsimp only at hSw); go_simp; first | done | with_reducible rfl)
    simp only [List.getElem_toArray, List.getElem_cons_succ, List.getElem_cons_zero, Act.put, List.setIfInBounds_toArray, List.set_cons_zero, List.set_cons_succ]
    refine wpAnyH_take (i := 3) (v := ?va1U1_3) rfl (by kernel_rfl) (by kernel_rfl) (by kernel_rfl) (fun _ _ _ h => h) (Or.inl ⟨rfl, ?ya1U1_3⟩) (by assumption) ?_
    case ya1U1_3 => (intro w hSw; (try dsimp only at hSw); go_simp; first | done | with_reducible rfl)
    simp only [List.getElem_toArray, List.getElem_cons_succ, List.getElem_cons_zero, Act.put, List.setIfInBounds_toArray, List.set_cons_zero, List.set_cons_succ]
    refine wpAnyH_take (i := 4) (v := ?va1U1_4) rfl (by kernel_rfl) (by kernel_rfl) (by kernel_rfl) (fun _ _ _ h => h) (Or.inl ⟨rfl, ?ya1U1_4⟩) (by assumption) ?_
    case ya1U1_4 => (intro w hSw; (try dsimp only at hSw); go_simp; first | done | with_reducible rfl)
    simp only [List.getElem_toArray, List.getElem_cons_succ, List.getElem_cons_zero, Act.put, List.setIfInBounds_toArray, List.set_cons_zero, List.set_cons_succ]
    refine wpAnyH_take (i := 5) (v := ?va1U1_5) rfl (by kernel_rfl) (by kernel_rfl) (by kernel_rfl) (fun _ _ _ h => h) (Or.inl ⟨rfl, ?ya1U1_5⟩) (by assumption) ?_
    case ya1U1_5 => (intro w hSw; (try dsimp only at hSw); go_simp; first | done | with_reducible rfl)
    simp only [List.getElem_toArray, List.getElem_cons_succ, List.getElem_cons_zero, Act.put, List.setIfInBounds_toArray, List.set_cons_zero, List.set_cons_succ]
    refine wpAnyH_take (i := 6) (v := ?va1U1_6) rfl (by kernel_rfl) (by kernel_rfl) (by kernel_rfl) (fun _ _ _ h => h) (Or.inl ⟨rfl, ?ya1U1_6⟩) (by assumption) ?_
    case ya1U1_6 => (intro w hSw; (try dsimp only at hSw); go_simp; first | done | with_reducible rfl)
    simp only [List.getElem_toArray, List.getElem_cons_succ, List.getElem_cons_zero, Act.put, List.setIfInBounds_toArray, List.set_cons_zero, List.set_cons_succ]
    refine wpAnyH_done (by kernel_rfl) ?_ _
    go_wp2_with fail
    refine wp_region_held_drew (S := fun w' => Below w1.heap.size w1 w') (by kernel_rfl) ?_ (fun hHeld => ?_)
    · exact hHeld.drew
    refine wpAnyH_take (i := 0) (v := ?vb1U2_0) rfl (by kernel_rfl) (by kernel_rfl) (by kernel_rfl) (fun _ _ _ h => h) (Or.inl ⟨rfl, ?yb1U2_0⟩) (by assumption) ?_
    case yb1U2_0 => (intro w hSw; (try dsimp only at hSw); go_simp; first | done | with_reducible rfl)
    simp only [List.getElem_toArray, List.getElem_cons_succ, List.getElem_cons_zero, Act.put, List.setIfInBounds_toArray, List.set_cons_zero, List.set_cons_succ]
    refine wpAnyH_take (i := 1) (v := ?vb1U2_1) rfl (by kernel_rfl) (by kernel_rfl) (by kernel_rfl) (fun _ _ _ h => h) (Or.inl ⟨rfl, ?yb1U2_1⟩) (by assumption) ?_
    case yb1U2_1 => (intro w hSw; (try dsimp only at hSw); go_simp; first | done | with_reducible rfl)
    simp only [List.getElem_toArray, List.getElem_cons_succ, List.getElem_cons_zero, Act.put, List.setIfInBounds_toArray, List.set_cons_zero, List.set_cons_succ]
    refine wpAnyH_take (i := 2) (v := ?vb1U2_2) rfl (by kernel_rfl) (by kernel_rfl) (by kernel_rfl) (fun _ _ _ h => h) (Or.inl ⟨rfl, ?yb1U2_2⟩) (by assumption) ?_
    case yb1U2_2 => (intro w hSw; (try dsimp only at hSw); go_simp; first | done | with_reducible rfl)
    simp only [List.getElem_toArray, List.getElem_cons_succ, List.getElem_cons_zero, Act.put, List.setIfInBounds_toArray, List.set_cons_zero, List.set_cons_succ]
    refine wpAnyH_take (i := 3) (v := ?vb1U2_3) rfl (by kernel_rfl) (by kernel_rfl) (by kernel_rfl) (fun _ _ _ h => h) (Or.inl ⟨rfl, ?yb1U2_3⟩) (by assumption) ?_
    case yb1U2_3 => (intro w hSw; (try dsimp only at hSw); go_simp; first | done | with_reducible rfl)
    simp only [List.getElem_toArray, List.getElem_cons_succ, List.getElem_cons_zero, Act.put, List.setIfInBounds_toArray, List.set_cons_zero, List.set_cons_succ]
    refine wpAnyH_take (i := 4) (v := ?vb1U2_4) rfl (by kernel_rfl) (by kernel_rfl) (by kernel_rfl) (fun _ _ _ h => h) (Or.inl ⟨rfl, ?yb1U2_4⟩) (by assumption) ?_
    case yb1U2_4 => (intro w hSw; (try dsimp only at hSw); go_simp; first | done | with_reducible rfl)
    simp only [List.getElem_toArray, List.getElem_cons_succ, List.getElem_cons_zero, Act.put, List.setIfInBounds_toArray, List.set_cons_zero, List.set_cons_succ]
    refine wpAnyH_take (i := 5) (v := ?vb1U2_5) rfl (by kernel_rfl) (by kernel_rfl) (by kernel_rfl) (fun _ _ _ h => h) (Or.inl ⟨rfl, ?yb1U2_5⟩) (by assumption) ?_
    case yb1U2_5 => (intro w hSw; (try dsimp only at hSw); go_simp; first | done | with_reducible rfl)
    simp only [List.getElem_toArray, List.getElem_cons_succ, List.getElem_cons_zero, Act.put, List.setIfInBounds_toArray, List.set_cons_zero, List.set_cons_succ]
    refine wpAnyH_take (i := 6) (v := ?vb1U2_6) rfl (by kernel_rfl) (by kernel_rfl) (by kernel_rfl) (fun _ _ _ h => h) (Or.inl ⟨rfl, ?yb1U2_6⟩) (by assumption) ?_
    case yb1U2_6 => (intro w hSw; (try dsimp only at hSw); go_simp; first | done | with_reducible rfl)
    simp only [List.getElem_toArray, List.getElem_cons_succ, List.getElem_cons_zero, Act.put, List.setIfInBounds_toArray, List.set_cons_zero, List.set_cons_succ]
    refine wpAnyH_ready (rs := [7]) (by kernel_rfl) (by simp) ?_
    refine AllReadyH.cons rfl (fun K hK => ?_) AllReadyH.nil
    go_simp
    refine (hix.out _).mono ?_
    rintro e u5 ⟨rfl, rfl⟩
    go_wp2_with fail
    refine hK.out _ _ ?_ (fun hHeld => ?_)
    · exact hHeld
    clear hK K
    try simp only [List.getElem_toArray, List.getElem_cons_succ, List.getElem_cons_zero, Act.put, List.setIfInBounds_toArray, List.set_cons_zero, List.set_cons_succ]
    refine wpAnyH_take (i := 8) (v := ?vb1U2_8) rfl (by kernel_rfl) (by kernel_rfl) (by kernel_rfl) (fun _ _ _ h => h) (Or.inl ⟨rfl, ?yb1U2_8⟩) (by assumption) ?_
    case yb1U2_8 => (intro w hSw; (try dsimp only at hSw); go_simp; first | done | with_reducible rfl)
    simp only [List.getElem_toArray, List.getElem_cons_succ, List.getElem_cons_zero, Act.put, List.setIfInBounds_toArray, List.set_cons_zero, List.set_cons_succ]
    refine wpAnyH_done (by kernel_rfl) ?_ _
    go_wp2
    simp only [Exit.noGoto_ret, Exit.noGoto, Exit.inBlock, Exit.then]
    go_ret
    exact ⟨rfl, hHeld⟩
  · have hlt : 2 < rs.size := by omega
    obtain ⟨c, hc1, hc2⟩ := hla.out 2 (by omega)
    have hck : rs[2]'hlt = c := by
      have h := List.getElem?_eq_some_iff.1 hc1
      exact h.2
    have n1 : ((32 : Int) == ((rs[2]'hlt).toNat : Int)) = false := beq_eq_false_iff_ne.2 (by rw [hck]; omega)
    have n2 : (32 == (rs[2]'hlt).toNat) = false := beq_eq_false_iff_ne.2 (by rw [hck]; omega)
    have n3 : ((32 : Int) != ((rs[2]'hlt).toNat : Int)) = true := by rw [bne, n1]; rfl
    have n4 : (32 != (rs[2]'hlt).toNat) = true := by rw [bne, n2]; rfl
    have hix : Hid (∀ W, Calls Try.prog 63 #[.string ((⟨#[98, 114, 32]⟩ : ByteArray).extract 3 3), .int .u8 ((rs[2]'hlt).toNat : Int)] W fun e w' => e = .returned (.int .i64 (-1)) ∧ W = w') := Lib.hid (fun W => (Try.strings_IndexByte _ _ W).mono fun e w' h => by
      refine ⟨?_, h.2.symm⟩
      rw [h.1]
      have e1 : ((⟨#[98, 114, 32]⟩ : ByteArray).extract 3 3).data.toList = [] := by decide +kernel
      rw [e1, hck]
      have e2 : ((c.toNat : Int)).toNat.toUInt8 = c := by simp
      rw [e2]
      have e3 : ¬ (32 : UInt8) = c := fun e => by subst e; revert hc2; decide
      simp [Lib.indexByte, e3])
    have n5 : ((((⟨#[98, 114, 32]⟩ : ByteArray)[2]'(by decide +kernel)).toNat : Int) != ((rs[2]'hlt).toNat : Int)) = true := n3
    have hwk : IntKind.i64.wrap 3 = 3 := IntWalk.i64_in _ (by omega)
    have hu0 : Hid (128 ≤ c.toNat) := Lib.hid hc2
    clear hc1 hc2 hck n1 n2
    go_enter Try.func61, Try.ntmps61
    go_wp2_with fail
    refine (hc.out _).mono ?_
    rintro e w1 ⟨rfl, rfl⟩
    go_wp2_with fail
    go_step3
    go_wp2_with fail
    refine wp_loop_rounds 1 ?_
    rw [rounds_succ]
    go_wp2_with fail
    go_step3
    go_wp2_with fail
    refine wp_region_held_drew (S := fun w' => Below w1.heap.size w1 w') (by kernel_rfl) ?_ (fun hHeld => ?_)
    · exact (Below.refl _ _).drew
    refine wpAnyH_take (i := 0) (v := ?va2U3_0) rfl (by kernel_rfl) (by kernel_rfl) (by kernel_rfl) (fun _ _ _ h => h) (Or.inl ⟨rfl, ?ya2U3_0⟩) (by assumption) ?_
    case ya2U3_0 => (intro w hSw; (try dsimp only at hSw); go_simp; first | done | with_reducible rfl)
    simp only [List.getElem_toArray, List.getElem_cons_succ, List.getElem_cons_zero, Act.put, List.setIfInBounds_toArray, List.set_cons_zero, List.set_cons_succ]
    refine wpAnyH_take (i := 1) (v := ?va2U3_1) rfl (by kernel_rfl) (by kernel_rfl) (by kernel_rfl) (fun _ _ _ h => h) (Or.inl ⟨rfl, ?ya2U3_1⟩) (by assumption) ?_
    case ya2U3_1 => (intro w hSw; (try dsimp only at hSw); go_simp; first | done | with_reducible rfl)
    simp only [List.getElem_toArray, List.getElem_cons_succ, List.getElem_cons_zero, Act.put, List.setIfInBounds_toArray, List.set_cons_zero, List.set_cons_succ]
    refine wpAnyH_take (i := 2) (v := ?va2U3_2) rfl (by kernel_rfl) (by kernel_rfl) (by kernel_rfl) (fun _ _ _ h => h) (Or.inl ⟨rfl, ?ya2U3_2⟩) (by assumption) ?_
    case ya2U3_2 => (intro w hSw; (try dsimp only at hSw); go_simp; first | done | with_reducible rfl)
    simp only [List.getElem_toArray, List.getElem_cons_succ, List.getElem_cons_zero, Act.put, List.setIfInBounds_toArray, List.set_cons_zero, List.set_cons_succ]
    refine wpAnyH_take (i := 3) (v := ?va2U3_3) rfl (by kernel_rfl) (by kernel_rfl) (by kernel_rfl) (fun _ _ _ h => h) (Or.inl ⟨rfl, ?ya2U3_3⟩) (by assumption) ?_
    case ya2U3_3 => (intro w hSw; (try dsimp only at hSw); go_simp; first | done | with_reducible rfl)
    simp only [List.getElem_toArray, List.getElem_cons_succ, List.getElem_cons_zero, Act.put, List.setIfInBounds_toArray, List.set_cons_zero, List.set_cons_succ]
    refine wpAnyH_take (i := 4) (v := ?va2U3_4) rfl (by kernel_rfl) (by kernel_rfl) (by kernel_rfl) (fun _ _ _ h => h) (Or.inl ⟨rfl, ?ya2U3_4⟩) (by assumption) ?_
    case ya2U3_4 => (intro w hSw; (try dsimp only at hSw); go_simp; first | done | with_reducible rfl)
    simp only [List.getElem_toArray, List.getElem_cons_succ, List.getElem_cons_zero, Act.put, List.setIfInBounds_toArray, List.set_cons_zero, List.set_cons_succ]
    refine wpAnyH_take (i := 5) (v := ?va2U3_5) rfl (by kernel_rfl) (by kernel_rfl) (by kernel_rfl) (fun _ _ _ h => h) (Or.inl ⟨rfl, ?ya2U3_5⟩) (by assumption) ?_
    case ya2U3_5 => (intro w hSw; (try dsimp only at hSw); go_simp; first | done | with_reducible rfl)
    simp only [List.getElem_toArray, List.getElem_cons_succ, List.getElem_cons_zero, Act.put, List.setIfInBounds_toArray, List.set_cons_zero, List.set_cons_succ]
    refine wpAnyH_take (i := 6) (v := ?va2U3_6) rfl (by kernel_rfl) (by kernel_rfl) (by kernel_rfl) (fun _ _ _ h => h) (Or.inl ⟨rfl, ?ya2U3_6⟩) (by assumption) ?_
    case ya2U3_6 => (intro w hSw; (try dsimp only at hSw); go_simp; first | done | with_reducible rfl)
    simp only [List.getElem_toArray, List.getElem_cons_succ, List.getElem_cons_zero, Act.put, List.setIfInBounds_toArray, List.set_cons_zero, List.set_cons_succ]
    refine wpAnyH_done (by kernel_rfl) ?_ _
    go_wp2_with fail
    refine wp_region_held_drew (S := fun w' => Below w1.heap.size w1 w') (by kernel_rfl) ?_ (fun hHeld => ?_)
    · exact hHeld.drew
    refine wpAnyH_take (i := 0) (v := ?vb2U4_0) rfl (by kernel_rfl) (by kernel_rfl) (by kernel_rfl) (fun _ _ _ h => h) (Or.inl ⟨rfl, ?yb2U4_0⟩) (by assumption) ?_
    case yb2U4_0 => (intro w hSw; (try dsimp only at hSw); go_simp; first | done | with_reducible rfl)
    simp only [List.getElem_toArray, List.getElem_cons_succ, List.getElem_cons_zero, Act.put, List.setIfInBounds_toArray, List.set_cons_zero, List.set_cons_succ]
    refine wpAnyH_take (i := 1) (v := ?vb2U4_1) rfl (by kernel_rfl) (by kernel_rfl) (by kernel_rfl) (fun _ _ _ h => h) (Or.inl ⟨rfl, ?yb2U4_1⟩) (by assumption) ?_
    case yb2U4_1 => (intro w hSw; (try dsimp only at hSw); go_simp; first | done | with_reducible rfl)
    simp only [List.getElem_toArray, List.getElem_cons_succ, List.getElem_cons_zero, Act.put, List.setIfInBounds_toArray, List.set_cons_zero, List.set_cons_succ]
    refine wpAnyH_take (i := 2) (v := ?vb2U4_2) rfl (by kernel_rfl) (by kernel_rfl) (by kernel_rfl) (fun _ _ _ h => h) (Or.inl ⟨rfl, ?yb2U4_2⟩) (by assumption) ?_
    case yb2U4_2 => (intro w hSw; (try dsimp only at hSw); go_simp; first | done | with_reducible rfl)
    simp only [List.getElem_toArray, List.getElem_cons_succ, List.getElem_cons_zero, Act.put, List.setIfInBounds_toArray, List.set_cons_zero, List.set_cons_succ]
    refine wpAnyH_take (i := 3) (v := ?vb2U4_3) rfl (by kernel_rfl) (by kernel_rfl) (by kernel_rfl) (fun _ _ _ h => h) (Or.inl ⟨rfl, ?yb2U4_3⟩) (by assumption) ?_
    case yb2U4_3 => (intro w hSw; (try dsimp only at hSw); go_simp; first | done | with_reducible rfl)
    simp only [List.getElem_toArray, List.getElem_cons_succ, List.getElem_cons_zero, Act.put, List.setIfInBounds_toArray, List.set_cons_zero, List.set_cons_succ]
    refine wpAnyH_take (i := 4) (v := ?vb2U4_4) rfl (by kernel_rfl) (by kernel_rfl) (by kernel_rfl) (fun _ _ _ h => h) (Or.inl ⟨rfl, ?yb2U4_4⟩) (by assumption) ?_
    case yb2U4_4 => (intro w hSw; (try dsimp only at hSw); go_simp; first | done | with_reducible rfl)
    simp only [List.getElem_toArray, List.getElem_cons_succ, List.getElem_cons_zero, Act.put, List.setIfInBounds_toArray, List.set_cons_zero, List.set_cons_succ]
    refine wpAnyH_take (i := 5) (v := ?vb2U4_5) rfl (by kernel_rfl) (by kernel_rfl) (by kernel_rfl) (fun _ _ _ h => h) (Or.inl ⟨rfl, ?yb2U4_5⟩) (by assumption) ?_
    case yb2U4_5 => (intro w hSw; (try dsimp only at hSw); go_simp; first | done | with_reducible rfl)
    simp only [List.getElem_toArray, List.getElem_cons_succ, List.getElem_cons_zero, Act.put, List.setIfInBounds_toArray, List.set_cons_zero, List.set_cons_succ]
    refine wpAnyH_take (i := 6) (v := ?vb2U4_6) rfl (by kernel_rfl) (by kernel_rfl) (by kernel_rfl) (fun _ _ _ h => h) (Or.inl ⟨rfl, ?yb2U4_6⟩) (by assumption) ?_
    case yb2U4_6 => (intro w hSw; (try dsimp only at hSw); go_simp; first | done | with_reducible rfl)
    simp only [List.getElem_toArray, List.getElem_cons_succ, List.getElem_cons_zero, Act.put, List.setIfInBounds_toArray, List.set_cons_zero, List.set_cons_succ]
    refine wpAnyH_ready (rs := [7]) (by kernel_rfl) (by simp) ?_
    refine AllReadyH.cons rfl (fun K hK => ?_) AllReadyH.nil
    go_simp
    refine (hix.out _).mono ?_
    rintro e u5 ⟨rfl, rfl⟩
    go_wp2_with fail
    refine hK.out _ _ ?_ (fun hHeld => ?_)
    · exact hHeld
    clear hK K
    try simp only [List.getElem_toArray, List.getElem_cons_succ, List.getElem_cons_zero, Act.put, List.setIfInBounds_toArray, List.set_cons_zero, List.set_cons_succ]
    refine wpAnyH_take (i := 8) (v := ?vb2U4_8) rfl (by kernel_rfl) (by kernel_rfl) (by kernel_rfl) (fun _ _ _ h => h) (Or.inl ⟨rfl, ?yb2U4_8⟩) (by assumption) ?_
    case yb2U4_8 => (intro w hSw; (try dsimp only at hSw); go_simp; first | done | with_reducible rfl)
    simp only [List.getElem_toArray, List.getElem_cons_succ, List.getElem_cons_zero, Act.put, List.setIfInBounds_toArray, List.set_cons_zero, List.set_cons_succ]
    refine wpAnyH_done (by kernel_rfl) ?_ _
    go_wp2
    simp only [Exit.noGoto_ret, Exit.noGoto, Exit.inBlock, Exit.then]
    go_ret
    exact ⟨rfl, hHeld⟩
  · skip
    go_enter Try.func61, Try.ntmps61
    go_wp2_with fail
    refine (hc.out _).mono ?_
    rintro e w1 ⟨rfl, rfl⟩
    go_wp2_with fail
    go_step3
    go_wp2_with fail
    refine wp_loop_rounds 1 ?_
    rw [rounds_succ]
    go_wp2
    simp only [Exit.noGoto_ret, Exit.noGoto, Exit.inBlock, Exit.then]
    go_ret
    exact ⟨rfl, Below.refl _ _⟩
end Go.Proofs.Ytceedmejmmoepaa
