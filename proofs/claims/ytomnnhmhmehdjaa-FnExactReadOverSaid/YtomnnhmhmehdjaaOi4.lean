/- Corrections: ReadOver of the program. -/
import Derived.Test.YtomnnhmhmehdjaaOi3
import Derived.Test.YtomnnhmhmehdjaaPp3
namespace Go.Proofs.Ytomnnhmhmehdjaa
open Go.RowKit Go.ChangeShapes Go.WideShapes Go.Deep
set_option linter.unusedVariables false
set_option linter.unusedSimpArgs false

set_option maxRecDepth 100000 in
set_option maxHeartbeats 2400000 in
theorem ro12_impl (s : ByteArray) (w : World) (hs : s.size ≤ 1048576) :
    Calls Try.prog 48 #[.string s] w fun e w' => e = .returned (.tuple #[.agg #[.string (roR s).1.under, .string (roR s).1.top, .string (roR s).1.seen], .bool (roR s).2]) ∧ Below w.heap.size w w' := by
  by_cases h5 : s.size = 5
  · have hro := Lib.hid (ro_same h5)
    generalize hr : roR s = r
    rw [hr] at hro
    have a5 : ((s.size : Int) == 5) = true := beq_iff_eq.2 (by omega)
    have b5 : ((s.size : Int) != 5) = false := by rw [bne, a5]; rfl
    have c5 : (s.size == 5) = true := beq_iff_eq.2 h5
    have hgo : (overOf s).good := by
      refine ⟨?_, ?_, ?_⟩ <;> (simp only [overOf, ByteArray.size_extract]; unfold maxLen; omega)
    have hc := Lib.hid (fun W => ot12_impl (overOf s) W hgo)
    have he : Hid (overOf s = ⟨s.extract 0 1, s.extract 2 3, s.extract 4 5⟩) := Lib.hid rfl
    generalize otR (overOf s) = T at *
    generalize overOf s = x at *
    clear hr hgo
    by_cases hT : (T.toList == s.toList) = true
    · have hT2 : (T.toList != s.toList) = false := by rw [bne, hT]; rfl
      have hres : Hid (r = (x, true)) := Lib.hid (by rw [hro.out, if_pos hT])
      clear hro
      go_enter Try.func48, Try.ntmps48
      go_wp2_with fail
      go_region_with (fail)
      obtain ⟨hX0, hXb⟩ := (blocks2 w (.cells #[.string ⟨#[]⟩, .string ⟨#[]⟩, .string ⟨#[]⟩] 59) (.cells #[.string (s.extract 0 1), .string (s.extract 2 3), .string (s.extract 4 5)] 59))
      have hA0 : (((w.alloc (.cells #[.string ⟨#[]⟩, .string ⟨#[]⟩, .string ⟨#[]⟩] 59)).alloc (.cells #[.string (s.extract 0 1), .string (s.extract 2 3), .string (s.extract 4 5)] 59)).drew).heap[w.heap.size]? = some (.cells #[.string ⟨#[]⟩, .string ⟨#[]⟩, .string ⟨#[]⟩] 59) := hX0
      have hX1 : (((w.alloc (.cells #[.string ⟨#[]⟩, .string ⟨#[]⟩, .string ⟨#[]⟩] 59)).alloc (.cells #[.string (s.extract 0 1), .string (s.extract 2 3), .string (s.extract 4 5)] 59)).drew).heap[w.heap.size + 1]? = some (.cells #[.string (s.extract 0 1), .string (s.extract 2 3), .string (s.extract 4 5)] 59) := hXb
      have hbw : Below w.heap.size w (((w.alloc (.cells #[.string ⟨#[]⟩, .string ⟨#[]⟩, .string ⟨#[]⟩] 59)).alloc (.cells #[.string (s.extract 0 1), .string (s.extract 2 3), .string (s.extract 4 5)] 59)).drew) := (below_a2 w _ _).drew
      clear hX0 hXb
      generalize (((w.alloc (.cells #[.string ⟨#[]⟩, .string ⟨#[]⟩, .string ⟨#[]⟩] 59)).alloc (.cells #[.string (s.extract 0 1), .string (s.extract 2 3), .string (s.extract 4 5)] 59)).drew) = W1 at *
      have c0 := own_cell hX1 (o := 0) rfl
      have c1 := own_cell hX1 (o := 1) rfl
      have c2 := own_cell hX1 (o := 2) rfl
      have hltX := own_lt hX1
      rw [he.out] at hc
      go_wp2_with fail
      refine (hc.out _).mono ?_
      rintro e w2 ⟨rfl, hb2⟩
      have hA2 := (hb2.block _ (own_lt hA0)).trans hA0
      have hX2 := (hb2.block _ (own_lt hX1)).trans hX1
      have hbw2 := hbw.step hb2
      clear c0 c1 c2 hltX hA0 hX1 hbw hb2 hc
      have c0 := own_cell hX2 (o := 0) rfl
      have c1 := own_cell hX2 (o := 1) rfl
      have c2 := own_cell hX2 (o := 2) rfl
      have L0 := own_cell hA2 (o := 0) rfl
      have L1 := own_cell hA2 (o := 1) rfl
      have L2 := own_cell hA2 (o := 2) rfl
      have F0 := own_frozen hA2 0
      have F1 := own_frozen hA2 1
      have F2 := own_frozen hA2 2
      have hltX := own_lt hX2
      have hltA := own_lt hA2
      go_wp2
      have hZ := set_block12 (i := 2) (v := .string (s.extract 4 5)) (set_block12 (i := 1) (v := .string (s.extract 2 3)) (set_block12 (i := 0) (v := .string (s.extract 0 1)) hA2))
      simp only [List.setIfInBounds_toArray, List.set_cons_zero, List.set_cons_succ] at hZ
      have hbz : Below w.heap.size w (((w2.setCell ⟨w.heap.size, 0, none⟩ (.string (s.extract 0 1))).setCell ⟨w.heap.size, 1, none⟩ (.string (s.extract 2 3))).setCell ⟨w.heap.size, 2, none⟩ (.string (s.extract 4 5))) := ((hbw2.setCell (Nat.le_refl _) _).setCell (Nat.le_refl _) _).setCell (Nat.le_refl _) _
      clear c0 c1 c2 L0 L1 L2 F0 F1 F2
      generalize (((w2.setCell ⟨w.heap.size, 0, none⟩ (.string (s.extract 0 1))).setCell ⟨w.heap.size, 1, none⟩ (.string (s.extract 2 3))).setCell ⟨w.heap.size, 2, none⟩ (.string (s.extract 4 5))) = wz at *
      have hlz := own_lt hZ
      have z0 := own_cell hZ (o := 0) rfl
      have z1 := own_cell hZ (o := 1) rfl
      have z2 := own_cell hZ (o := 2) rfl
      refine bodyPost_ret (v := .tuple #[.agg #[.string (s.extract 0 1), .string (s.extract 2 3), .string (s.extract 4 5)], .bool true]) (by simp [results, Try.results48, go_sem, z0, z1, z2, hlz]) rfl ?_
      exact ⟨by rw [hres.out, he.out], hbz⟩
    · have hT1 : (T.toList == s.toList) = false := by simpa using hT
      have hT2 : (T.toList != s.toList) = true := by rw [bne, hT1]; rfl
      have hres : Hid (r = (overZ, false)) := Lib.hid (by rw [hro.out, if_neg hT])
      clear hro hT
      go_enter Try.func48, Try.ntmps48
      go_wp2_with fail
      go_region_with (fail)
      obtain ⟨hX0, hXb⟩ := (blocks2 w (.cells #[.string ⟨#[]⟩, .string ⟨#[]⟩, .string ⟨#[]⟩] 59) (.cells #[.string (s.extract 0 1), .string (s.extract 2 3), .string (s.extract 4 5)] 59))
      have hA0 : (((w.alloc (.cells #[.string ⟨#[]⟩, .string ⟨#[]⟩, .string ⟨#[]⟩] 59)).alloc (.cells #[.string (s.extract 0 1), .string (s.extract 2 3), .string (s.extract 4 5)] 59)).drew).heap[w.heap.size]? = some (.cells #[.string ⟨#[]⟩, .string ⟨#[]⟩, .string ⟨#[]⟩] 59) := hX0
      have hX1 : (((w.alloc (.cells #[.string ⟨#[]⟩, .string ⟨#[]⟩, .string ⟨#[]⟩] 59)).alloc (.cells #[.string (s.extract 0 1), .string (s.extract 2 3), .string (s.extract 4 5)] 59)).drew).heap[w.heap.size + 1]? = some (.cells #[.string (s.extract 0 1), .string (s.extract 2 3), .string (s.extract 4 5)] 59) := hXb
      have hbw : Below w.heap.size w (((w.alloc (.cells #[.string ⟨#[]⟩, .string ⟨#[]⟩, .string ⟨#[]⟩] 59)).alloc (.cells #[.string (s.extract 0 1), .string (s.extract 2 3), .string (s.extract 4 5)] 59)).drew) := (below_a2 w _ _).drew
      clear hX0 hXb
      generalize (((w.alloc (.cells #[.string ⟨#[]⟩, .string ⟨#[]⟩, .string ⟨#[]⟩] 59)).alloc (.cells #[.string (s.extract 0 1), .string (s.extract 2 3), .string (s.extract 4 5)] 59)).drew) = W1 at *
      have c0 := own_cell hX1 (o := 0) rfl
      have c1 := own_cell hX1 (o := 1) rfl
      have c2 := own_cell hX1 (o := 2) rfl
      have hltX := own_lt hX1
      rw [he.out] at hc
      go_wp2_with fail
      refine (hc.out _).mono ?_
      rintro e w2 ⟨rfl, hb2⟩
      have hA2 := (hb2.block _ (own_lt hA0)).trans hA0
      have hX2 := (hb2.block _ (own_lt hX1)).trans hX1
      have hbw2 := hbw.step hb2
      clear c0 c1 c2 hltX hA0 hX1 hbw hb2 hc
      have c0 := own_cell hX2 (o := 0) rfl
      have c1 := own_cell hX2 (o := 1) rfl
      have c2 := own_cell hX2 (o := 2) rfl
      have L0 := own_cell hA2 (o := 0) rfl
      have L1 := own_cell hA2 (o := 1) rfl
      have L2 := own_cell hA2 (o := 2) rfl
      have F0 := own_frozen hA2 0
      have F1 := own_frozen hA2 1
      have F2 := own_frozen hA2 2
      have hltX := own_lt hX2
      have hltA := own_lt hA2
      go_wp2
      have hZ := set_block12 (i := 2) (v := .string ⟨#[]⟩) (set_block12 (i := 1) (v := .string ⟨#[]⟩) (set_block12 (i := 0) (v := .string ⟨#[]⟩) hA2))
      simp only [List.setIfInBounds_toArray, List.set_cons_zero, List.set_cons_succ] at hZ
      have hbz : Below w.heap.size w (((w2.setCell ⟨w.heap.size, 0, none⟩ (.string ⟨#[]⟩)).setCell ⟨w.heap.size, 1, none⟩ (.string ⟨#[]⟩)).setCell ⟨w.heap.size, 2, none⟩ (.string ⟨#[]⟩)) := ((hbw2.setCell (Nat.le_refl _) _).setCell (Nat.le_refl _) _).setCell (Nat.le_refl _) _
      clear c0 c1 c2 L0 L1 L2 F0 F1 F2
      generalize (((w2.setCell ⟨w.heap.size, 0, none⟩ (.string ⟨#[]⟩)).setCell ⟨w.heap.size, 1, none⟩ (.string ⟨#[]⟩)).setCell ⟨w.heap.size, 2, none⟩ (.string ⟨#[]⟩)) = wz at *
      have hlz := own_lt hZ
      have z0 := own_cell hZ (o := 0) rfl
      have z1 := own_cell hZ (o := 1) rfl
      have z2 := own_cell hZ (o := 2) rfl
      refine bodyPost_ret (v := .tuple #[.agg #[.string ⟨#[]⟩, .string ⟨#[]⟩, .string ⟨#[]⟩], .bool false]) (by simp [results, Try.results48, go_sem, z0, z1, z2, hlz]) rfl ?_
      exact ⟨by rw [hres.out]; rfl, hbz⟩
  · have hres : Hid (roR s = (overZ, false)) := Lib.hid (by rw [roR, if_neg h5])
    have a5 : ((s.size : Int) == 5) = false := beq_eq_false_iff_ne.2 (by omega)
    have b5 : ((s.size : Int) != 5) = true := by rw [bne, a5]; rfl
    have c5 : (s.size == 5) = false := beq_eq_false_iff_ne.2 h5
    replace h5 := Lib.hid h5
    go_enter Try.func48, Try.ntmps48
    go_wp2
    refine bodyPost_ret (v := .tuple #[.agg #[.string ⟨#[]⟩, .string ⟨#[]⟩, .string ⟨#[]⟩], .bool false]) (by simp [results, Try.results48, go_sem]) rfl ?_
    exact ⟨by rw [hres.out]; rfl, below_a1 _ _⟩
end Go.Proofs.Ytomnnhmhmehdjaa
