/- Colours: ColourRuns by the program: two labels, each with a jump to the other. -/
import Derived.Test.YtceedmejmmoepaaKc1
import Derived.ScopeJumps
namespace Go.Proofs.Ytceedmejmmoepaa
open Go.RowKit Go.ChangeShapes Go.WideShapes Go.Deep
set_option linter.unusedVariables false
set_option linter.unusedSimpArgs false

theorem crune_hi14 (r : Int) (h0 : 128 ≤ r) (w : World) : Calls Try.prog 58 #[.string ⟨#[98, 114, 32]⟩, .int .i32 r] w fun e w' => e = .returned (.bool false) ∧ Below w.heap.size w w' := by
  have hi : Hid (∀ W, Calls Try.prog 61 #[.string ⟨#[98, 114, 32]⟩, .int .i32 r] W fun e w' => e = .returned (.int .i64 (-1)) ∧ Below W.heap.size W w') := Lib.hid (fun W => by
    by_cases h1 : r = 65533
    · subst h1; exact rune_err14 W
    · cases hv : Lib.validRune r with
      | true => exact rune_good14 r h0 h1 hv W
      | false => exact rune_bad14 r h0 h1 hv W)
  clear h0
  generalize (⟨#[98, 114, 32]⟩ : ByteArray) = s at *
  go_enter Try.func58, Try.ntmps58
  go_wp2_with fail
  refine (hi.out _).mono ?_
  rintro e w1 ⟨rfl, hb1⟩
  go_wp2
  go_ret
  exact ⟨rfl, hb1⟩
theorem noc_hi14 (r : Int) (h0 : 128 ≤ r) (w : World) : Calls Try.prog 49 #[.int .i32 r] w fun e w' => e = .returned (.bool true) ∧ Below w.heap.size w w' := by
  have hi := Lib.hid (fun W => crune_hi14 r h0 W)
  clear h0
  go_enter Try.func49, Try.ntmps49
  go_wp2_with fail
  refine (hi.out _).mono ?_
  rintro e w1 ⟨rfl, hb1⟩
  go_wp2
  go_ret
  exact ⟨rfl, hb1⟩
theorem col_find (c : UInt8) : decide (0 ≤ Lib.indexByte (⟨#[98, 114, 32]⟩ : ByteArray).data.toList c) = colC c := by
  have e : (⟨#[98, 114, 32]⟩ : ByteArray).data.toList = [98, 114, 32] := rfl
  rw [e]
  by_cases h1 : c = 98
  · subst h1; decide +kernel
  · by_cases h2 : c = 114
    · subst h2; decide +kernel
    · by_cases h3 : c = 32
      · subst h3; decide +kernel
      · have k1 : ¬ c.toNat = 98 := fun h => h1 (UInt8.toNat_inj.1 h)
        have k2 : ¬ c.toNat = 114 := fun h => h2 (UInt8.toNat_inj.1 h)
        have k3 : ¬ c.toNat = 32 := fun h => h3 (UInt8.toNat_inj.1 h)
        have j1 : ((98 : UInt8) == c) = false := beq_eq_false_iff_ne.2 (fun h => h1 h.symm)
        have j2 : ((114 : UInt8) == c) = false := beq_eq_false_iff_ne.2 (fun h => h2 h.symm)
        have j3 : ((32 : UInt8) == c) = false := beq_eq_false_iff_ne.2 (fun h => h3 h.symm)
        simp [Lib.indexByte, j1, j2, j3, colC, k1, k2, k3]
theorem noc_asc14 (c : UInt8) (h0 : c.toNat < 128) {v : Bool} (hv : colC c = v) (w : World) : Calls Try.prog 49 #[.int .i32 (c.toNat : Int)] w fun e w' => e = .returned (.bool (!v)) ∧ w = w' := by
  have hi : Hid (∀ W, Calls Try.prog 58 #[.string ⟨#[98, 114, 32]⟩, .int .i32 (c.toNat : Int)] W fun e w' => e = .returned (.bool v) ∧ W = w') := Lib.hid (fun W => (Try.strings_ContainsRune_ascii _ (c.toNat : Int) W (by omega) (by omega)).mono fun e w' h => by
    refine ⟨?_, h.2.symm⟩
    rw [h.1]
    have e2 : ((c.toNat : Int)).toNat.toUInt8 = c := by simp
    rw [e2, col_find, hv])
  clear h0 hv
  generalize (c.toNat : Int) = z at *
  go_enter Try.func49, Try.ntmps49
  go_wp2_with fail
  refine (hi.out _).mono ?_
  rintro e w1 ⟨rfl, rfl⟩
  go_wp2
  go_ret
  exact ⟨rfl, rfl⟩
set_option maxRecDepth 100000 in
set_option maxHeartbeats 3200000 in
theorem idxf14 (s : ByteArray) {v : Bool} (hv : s.data.toList.all colC = v) (w : World) :
    Calls Try.prog 60 #[.string s, .func (.func 49) #[] #[], .bool true] w fun e w' => (∃ i : Int, e = .returned (.int .i64 i) ∧ decide (0 ≤ i) = !v) ∧ Below w.heap.size w w' := by
  have hv0 := Lib.hid hv
  clear hv
  go_enter Try.func60, Try.ntmps60
  go_wp2
  go_loopw [7, 8] (fun _ _ wr => ∃ pos : Nat, wr.heap[w.heap.size]? = some (.stringIter s pos) ∧ pos ≤ s.size ∧ s.data.toList.all colC = (s.data.toList.drop pos).all colC ∧ Below w.heap.size w wr) (fun _ _ wr => s.size - wr.iterPos w.heap.size)
  case atStart => exact ⟨0, World.iter_heap w s 0, by omega, rfl, below_a1 _ _⟩
  case round =>
    rename World => wr
    obtain ⟨pos, hit, hp, hall, hbw⟩ := hrel
    replace hall := Lib.hid hall
    have hpos : wr.iterPos w.heap.size = pos := by simp only [World.iterPos, hit]
    by_cases hlt : pos < s.size
    · have hdr := Lib.hid (drop_at14 hlt)
      have hrd := Lib.hid (show ∀ c : UInt8, c = s[pos]'hlt → (s.data.toList.drop pos).all colC = (colC c && (s.data.toList.drop (pos + 1)).all colC) from fun c hc => by rw [hdr.out, List.all_cons, hc])
      have p0 : (0 : Int) ≤ (pos : Int) := Int.natCast_nonneg _
      by_cases ha : (s[pos]'hlt).toNat < 128
      · have hnx : ∀ ty, (Instr.next (.pointer (some ⟨w.heap.size, 0, none⟩)) true ty).run Try.prog wr = _ := fun ty => Lib.run_next_ascii_at wr w.heap.size s pos ty hit hlt ha
        have hit2 := Lib.iterAt_heap wr w.heap.size s pos (pos + 1) hit
        have hbw2 : Hid (Below w.heap.size w (wr.iterAt w.heap.size s (pos + 1))) := Lib.hid (hbw.grown (grownBy_putObj' wr w.heap.size _) hbw.size (fun k e => by cases e; exact Nat.le_refl _))
        cases hcc : colC (s[pos]'hlt) with
        | true =>
          have hc := Lib.hid (fun W => noc_asc14 (s[pos]'hlt) ha hcc W)
          have hnext : Hid (s.data.toList.all colC = (s.data.toList.drop (pos + 1)).all colC) := Lib.hid (by rw [hall.out, hrd.out _ rfl, hcc, Bool.true_and])
          generalize hwi : wr.iterAt w.heap.size s (pos + 1) = wi at *
          have hip2 : wi.iterPos w.heap.size = pos + 1 := by simp only [World.iterPos, hit2]
          clear hwi hit hbw hcc ha
          go_wp2_with fail
          refine (hc.out _).mono ?_
          rintro e w1 ⟨rfl, rfl⟩
          go_wp2
          go_roundw
          case rel => exact ⟨pos + 1, hit2, by omega, hnext.out, hbw2.out⟩
          case measure => rw [hip2, hpos]; omega
        | false =>
          have hc := Lib.hid (fun W => noc_asc14 (s[pos]'hlt) ha hcc W)
          have hno : Hid (v = false) := Lib.hid (by rw [← hv0.out, hall.out, hrd.out _ rfl, hcc, Bool.false_and])
          generalize hwi : wr.iterAt w.heap.size s (pos + 1) = wi at *
          clear hwi hit hbw hcc ha
          go_wp2_with fail
          refine (hc.out _).mono ?_
          rintro e w1 ⟨rfl, rfl⟩
          go_wp2
          go_ret
          exact ⟨⟨_, rfl, by rw [hno.out]; simp⟩, hbw2.out⟩
      · have hnx : ∀ ty, (Instr.next (.pointer (some ⟨w.heap.size, 0, none⟩)) true ty).run Try.prog wr = _ := fun ty => Lib.run_next_any_at wr w.heap.size s pos ty hit hlt
        have hg : s.get! pos = s[pos]'hlt := by
          have : pos < s.data.size := hlt
          exact getElem!_pos s.data pos this
        have hd := decode_hi s pos (by rw [hg]; omega)
        have hbw2 : Hid (Below w.heap.size w (wr.iterAt w.heap.size s (pos + (Utf8.decode s pos).2))) := Lib.hid (hbw.grown (grownBy_putObj' wr w.heap.size _) hbw.size (fun k e => by cases e; exact Nat.le_refl _))
        have hc := Lib.hid (fun W => noc_hi14 ((Utf8.decode s pos).1 : Int) (by omega) W)
        have hcc : colC (s[pos]'hlt) = false := by
          have k1 : ¬ (s[pos]'hlt).toNat = 98 := by omega
          have k2 : ¬ (s[pos]'hlt).toNat = 114 := by omega
          have k3 : ¬ (s[pos]'hlt).toNat = 32 := by omega
          simp [colC, k1, k2, k3]
        have hno : Hid (v = false) := Lib.hid (by rw [← hv0.out, hall.out, hrd.out _ rfl, hcc, Bool.false_and])
        generalize (Utf8.decode s pos).1 = z at *
        generalize hwi : wr.iterAt w.heap.size s (pos + (Utf8.decode s pos).2) = wi at *
        clear hwi hit hbw hcc ha hg
        go_wp2_with fail
        refine (hc.out _).mono ?_
        rintro e w1 ⟨rfl, hb1⟩
        have hb3 := Lib.hid (hbw2.out.step hb1)
        clear hb1
        go_wp2
        go_ret
        exact ⟨⟨_, rfl, by rw [hno.out]; simp⟩, hb3.out⟩
    · obtain rfl : pos = s.size := by omega
      have hnx : ∀ ty, (Instr.next (.pointer (some ⟨w.heap.size, 0, none⟩)) true ty).run Try.prog wr = _ := fun ty => Lib.run_next_end_at wr w.heap.size s s.size ty hit hlt
      have hyes : Hid (v = true) := Lib.hid (by rw [← hv0.out, hall.out, List.drop_of_length_le (show s.data.toList.length ≤ s.size from Nat.le_refl _)]; rfl)
      clear hall
      go_wp2
      go_ret
      exact ⟨⟨_, rfl, by rw [hyes.out]; rfl⟩, hbw⟩
theorem idxF14 (s : ByteArray) {v : Bool} (hv : s.data.toList.all colC = v) (w : World) :
    Calls Try.prog 57 #[.string s, .func (.func 49) #[] #[]] w fun e w' => (∃ i : Int, e = .returned (.int .i64 i) ∧ decide (0 ≤ i) = !v) ∧ Below w.heap.size w w' := by
  have hi := Lib.hid (fun W => idxf14 s hv W)
  clear hv
  go_enter Try.func57, Try.ntmps57
  go_wp2_with fail
  refine (hi.out _).mono ?_
  rintro e w1 ⟨⟨i, rfl, hd⟩, hb1⟩
  have hd0 := Lib.hid hd
  go_wp2
  go_ret
  exact ⟨⟨_, rfl, hd0.out⟩, hb1⟩
theorem conF14 (s : ByteArray) {v : Bool} (hv : s.data.toList.all colC = v) (w : World) :
    Calls Try.prog 48 #[.string s, .func (.func 49) #[] #[]] w fun e w' => e = .returned (.bool (!v)) ∧ Below w.heap.size w w' := by
  have hi := Lib.hid (fun W => idxF14 s hv W)
  clear hv
  go_enter Try.func48, Try.ntmps48
  go_wp2_with fail
  refine (hi.out _).mono ?_
  rintro e w1 ⟨⟨i, rfl, hd⟩, hb1⟩
  skip
  go_wp2
  go_ret
  exact ⟨rfl, hb1⟩
end Go.Proofs.Ytceedmejmmoepaa
