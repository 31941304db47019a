/- Corrections: the model's ReadOver. -/
import Derived.Test.YtomnnhmhmehdjaaCo8
import Derived.Deep.RegionWith
namespace Go.Proofs.Ytomnnhmhmehdjaa
open Go.RowKit Go.ChangeShapes Go.WideShapes Go.Deep
set_option linter.unusedVariables false
set_option linter.unusedSimpArgs false

def overZ : OverD := ⟨ByteArray.empty, ByteArray.empty, ByteArray.empty⟩
def overOf (s : ByteArray) : OverD := ⟨s.extract 0 1, s.extract 2 3, s.extract 4 5⟩
def roR (s : ByteArray) : OverD × Bool := if s.size = 5 then (if (bAt s 1).toNat = 60 then (if (bAt s 3).toNat = 61 then (if oneB (overOf s) = true then (overOf s, true) else (overZ, false)) else (overZ, false)) else (overZ, false)) else (overZ, false)
theorem ret12_o {p : OverD × Bool} {x : OverD} {b : Bool} (h : p = (x, b)) : Ending.returned (.tuple #[.agg #[.string x.under, .string x.top, .string x.seen], .bool b]) = .returned (.tuple #[.agg #[.string p.1.under, .string p.1.top, .string p.1.seen], .bool p.2]) := by rw [h]
theorem set3 {w : World} {R : Nat} {v0 v1 v2 a b c : Value} (L0 : w.cell? ⟨R, 0, none⟩ = some v0) (L1 : w.cell? ⟨R, 1, none⟩ = some v1) (L2 : w.cell? ⟨R, 2, none⟩ = some v2) :
    (((w.setCell ⟨R, 0, none⟩ a).setCell ⟨R, 1, none⟩ b).setCell ⟨R, 2, none⟩ c).cell? ⟨R, 0, none⟩ = some a ∧ (((w.setCell ⟨R, 0, none⟩ a).setCell ⟨R, 1, none⟩ b).setCell ⟨R, 2, none⟩ c).cell? ⟨R, 1, none⟩ = some b ∧ (((w.setCell ⟨R, 0, none⟩ a).setCell ⟨R, 1, none⟩ b).setCell ⟨R, 2, none⟩ c).cell? ⟨R, 2, none⟩ = some c := by
  have d01 : (⟨R, 0, none⟩ : Addr) ≠ ⟨R, 1, none⟩ := fun e => by cases e
  have d02 : (⟨R, 0, none⟩ : Addr) ≠ ⟨R, 2, none⟩ := fun e => by cases e
  have d12 : (⟨R, 1, none⟩ : Addr) ≠ ⟨R, 2, none⟩ := fun e => by cases e
  refine ⟨?_, ?_, ?_⟩
  · rw [World.cell?_setCell_other _ _ _ _ d02.symm, World.cell?_setCell_other _ _ _ _ d01.symm]
    exact World.cell?_setCell_same _ _ _ L0
  · rw [World.cell?_setCell_other _ _ _ _ d12.symm]
    exact World.cell?_setCell_same _ _ _ ((World.cell?_setCell_other _ _ _ _ d01).trans L1)
  · exact World.cell?_setCell_same _ _ _ ((World.cell?_setCell_other _ _ _ _ d12).trans ((World.cell?_setCell_other _ _ _ _ d02).trans L2))
set_option maxHeartbeats 2400000 in
theorem ro12_spec (s : ByteArray) (w : World) (hs : s.size ≤ 1048576) :
    Calls Try.prog 47 #[.string s] w fun e w' => e = .returned (.tuple #[.agg #[.string (roR s).1.under, .string (roR s).1.top, .string (roR s).1.seen], .bool (roR s).2]) ∧ Below w.heap.size w w' := by
  generalize hr : roR s = r
  replace hr := Lib.hid hr.symm
  by_cases h5 : s.size = 5
  · have p1 : 1 < s.size := by omega
    have p3 : 3 < s.size := by omega
    have k1 : (1 : Int) < (s.size : Int) := by omega
    have k3 : (3 : Int) < (s.size : Int) := by omega
    have a5 : ((s.size : Int) == 5) = true := beq_iff_eq.2 (by omega)
    have b5 : ((s.size : Int) != 5) = false := by rw [bne, a5]; rfl
    have d5 : (s.size == 5) = true := beq_iff_eq.2 h5
    by_cases hA : (s[1]'p1).toNat = 60
    · have a60 : (((s[1]'p1).toNat : Int) == 60) = true := beq_iff_eq.2 (by omega)
      have b60 : (((s[1]'p1).toNat : Int) != 60) = false := by rw [bne, a60]; rfl
      have d60 : ((s[1]'p1).toNat == 60) = true := beq_iff_eq.2 hA
      by_cases hB : (s[3]'p3).toNat = 61
      · have a61 : (((s[3]'p3).toNat : Int) == 61) = true := beq_iff_eq.2 (by omega)
        have b61 : (((s[3]'p3).toNat : Int) != 61) = false := by rw [bne, a61]; rfl
        have d61 : ((s[3]'p3).toNat == 61) = true := beq_iff_eq.2 hB
        have hres : Hid (r = if oneB (overOf s) = true then (overOf s, true) else (overZ, false)) := Lib.hid (by rw [hr.out, roR, if_pos h5, if_pos (by rw [bAt_eq p1]; exact hA), if_pos (by rw [bAt_eq p3]; exact hB)])
        replace hA := Lib.hid hA
        replace hB := Lib.hid hB
        have hgo : (overOf s).good := by
          refine ⟨?_, ?_, ?_⟩ <;> (simp only [overOf, ByteArray.size_extract]; unfold maxLen; omega)
        cases h1 : oneB (overOf s) with
        | false =>
          have hres2 : Hid (r = (overZ, false)) := Lib.hid (by rw [hres.out, h1]; rfl)
          have hone := Lib.hid (fun b o W hb c0 c1 c2 => one12 (overOf s) h1 hgo b o W hb c0 c1 c2)
          clear h1 hgo hres
          clear hr
          go_enter Try.func47, Try.ntmps47
          go_wp2_with fail
          go_region_with (fail)
          have hbA : Below (w.alloc (.cells #[.string ⟨#[]⟩, .string ⟨#[]⟩, .string ⟨#[]⟩] 59)).heap.size (w.alloc (.cells #[.string ⟨#[]⟩, .string ⟨#[]⟩, .string ⟨#[]⟩] 59)) (((w.alloc (.cells #[.string ⟨#[]⟩, .string ⟨#[]⟩, .string ⟨#[]⟩] 59)).alloc (.cells #[.string (s.extract 0 1), .string (s.extract 2 3), .string (s.extract 4 5)] 59)).drew) := (below_a1 _ _).drew
          have hbX : Below ((w.alloc (.cells #[.string ⟨#[]⟩, .string ⟨#[]⟩, .string ⟨#[]⟩] 59)).alloc (.cells #[.string (s.extract 0 1), .string (s.extract 2 3), .string (s.extract 4 5)] 59)).heap.size ((w.alloc (.cells #[.string ⟨#[]⟩, .string ⟨#[]⟩, .string ⟨#[]⟩] 59)).alloc (.cells #[.string (s.extract 0 1), .string (s.extract 2 3), .string (s.extract 4 5)] 59)) (((w.alloc (.cells #[.string ⟨#[]⟩, .string ⟨#[]⟩, .string ⟨#[]⟩] 59)).alloc (.cells #[.string (s.extract 0 1), .string (s.extract 2 3), .string (s.extract 4 5)] 59)).drew) := (Below.refl _ _).drew
          have hA0 := own_block hbA
          have hX0 := own_block hbX
          have e9 : (w.alloc (.cells #[.string ⟨#[]⟩, .string ⟨#[]⟩, .string ⟨#[]⟩] 59)).heap.size = w.heap.size + 1 := by simp
          rw [e9] at hX0
          have hbw : Below w.heap.size w (((w.alloc (.cells #[.string ⟨#[]⟩, .string ⟨#[]⟩, .string ⟨#[]⟩] 59)).alloc (.cells #[.string (s.extract 0 1), .string (s.extract 2 3), .string (s.extract 4 5)] 59)).drew) := (below_a1 w _).trans (hbA.mono (by rw [e9]; omega))
          generalize ((w.alloc (.cells #[.string ⟨#[]⟩, .string ⟨#[]⟩, .string ⟨#[]⟩] 59)).alloc (.cells #[.string (s.extract 0 1), .string (s.extract 2 3), .string (s.extract 4 5)] 59)).drew = W1 at *
          clear hbA hbX e9
          have hcl := Lib.hid (hone.out (w.heap.size + 1) 0 W1 (own_lt hX0) (own_cell hX0 rfl) (own_cell hX0 rfl) (own_cell hX0 rfl))
          go_wp2_with fail
          refine hcl.out.mono ?_
          rintro e w2 ⟨rfl, hb2⟩
          have hA1 := (hb2.block _ (own_lt hA0)).trans hA0
          have hX1 := (hb2.block _ (own_lt hX0)).trans hX0
          have hbw2 : Below w.heap.size w w2 := hbw.step hb2
          have L0 := own_cell hA1 (o := 0) rfl
          have L1 := own_cell hA1 (o := 1) rfl
          have L2 := own_cell hA1 (o := 2) rfl
          have F0 := own_frozen hA1 0
          have F1 := own_frozen hA1 1
          have F2 := own_frozen hA1 2
          have c0 := own_cell hX1 (o := 0) rfl
          have c1 := own_cell hX1 (o := 1) rfl
          have c2 := own_cell hX1 (o := 2) rfl
          have hlt := own_lt hA1
          clear hA0 hX0 hA1 hX1 hbw hb2 hcl hone
          go_wp2
          obtain ⟨z0, z1, z2⟩ := set3 (a := .string ⟨#[]⟩) (b := .string ⟨#[]⟩) (c := .string ⟨#[]⟩) L0 L1 L2
          have hbz : Below w.heap.size w (((w2.setCell ⟨w.heap.size, 0, none⟩ (.string ⟨#[]⟩)).setCell ⟨w.heap.size, 1, none⟩ (.string ⟨#[]⟩)).setCell ⟨w.heap.size, 2, none⟩ (.string ⟨#[]⟩)) := (((hbw2.setCell (Nat.le_refl _) _).setCell (Nat.le_refl _) _).setCell (Nat.le_refl _) _)
          have hlz : w.heap.size < (((w2.setCell ⟨w.heap.size, 0, none⟩ (.string ⟨#[]⟩)).setCell ⟨w.heap.size, 1, none⟩ (.string ⟨#[]⟩)).setCell ⟨w.heap.size, 2, none⟩ (.string ⟨#[]⟩)).heap.size := by simpa [World.setCell] using hlt
          generalize (((w2.setCell ⟨w.heap.size, 0, none⟩ (.string ⟨#[]⟩)).setCell ⟨w.heap.size, 1, none⟩ (.string ⟨#[]⟩)).setCell ⟨w.heap.size, 2, none⟩ (.string ⟨#[]⟩)) = wz at *
          refine bodyPost_ret (v := .tuple #[.agg #[.string ⟨#[]⟩, .string ⟨#[]⟩, .string ⟨#[]⟩], .bool false]) (by simp [results, Try.results47, go_sem, z0, z1, z2, hlz]) rfl ?_
          exact ⟨ret12_o hres2.out, hbz⟩
        | true =>
          have hres2 : Hid (r = (overOf s, true)) := Lib.hid (by rw [hres.out, h1]; rfl)
          have hone := Lib.hid (fun b o W hb c0 c1 c2 => one12 (overOf s) h1 hgo b o W hb c0 c1 c2)
          clear h1 hgo hres
          clear hr
          go_enter Try.func47, Try.ntmps47
          go_wp2_with fail
          go_region_with (fail)
          have hbA : Below (w.alloc (.cells #[.string ⟨#[]⟩, .string ⟨#[]⟩, .string ⟨#[]⟩] 59)).heap.size (w.alloc (.cells #[.string ⟨#[]⟩, .string ⟨#[]⟩, .string ⟨#[]⟩] 59)) (((w.alloc (.cells #[.string ⟨#[]⟩, .string ⟨#[]⟩, .string ⟨#[]⟩] 59)).alloc (.cells #[.string (s.extract 0 1), .string (s.extract 2 3), .string (s.extract 4 5)] 59)).drew) := (below_a1 _ _).drew
          have hbX : Below ((w.alloc (.cells #[.string ⟨#[]⟩, .string ⟨#[]⟩, .string ⟨#[]⟩] 59)).alloc (.cells #[.string (s.extract 0 1), .string (s.extract 2 3), .string (s.extract 4 5)] 59)).heap.size ((w.alloc (.cells #[.string ⟨#[]⟩, .string ⟨#[]⟩, .string ⟨#[]⟩] 59)).alloc (.cells #[.string (s.extract 0 1), .string (s.extract 2 3), .string (s.extract 4 5)] 59)) (((w.alloc (.cells #[.string ⟨#[]⟩, .string ⟨#[]⟩, .string ⟨#[]⟩] 59)).alloc (.cells #[.string (s.extract 0 1), .string (s.extract 2 3), .string (s.extract 4 5)] 59)).drew) := (Below.refl _ _).drew
          have hA0 := own_block hbA
          have hX0 := own_block hbX
          have e9 : (w.alloc (.cells #[.string ⟨#[]⟩, .string ⟨#[]⟩, .string ⟨#[]⟩] 59)).heap.size = w.heap.size + 1 := by simp
          rw [e9] at hX0
          have hbw : Below w.heap.size w (((w.alloc (.cells #[.string ⟨#[]⟩, .string ⟨#[]⟩, .string ⟨#[]⟩] 59)).alloc (.cells #[.string (s.extract 0 1), .string (s.extract 2 3), .string (s.extract 4 5)] 59)).drew) := (below_a1 w _).trans (hbA.mono (by rw [e9]; omega))
          generalize ((w.alloc (.cells #[.string ⟨#[]⟩, .string ⟨#[]⟩, .string ⟨#[]⟩] 59)).alloc (.cells #[.string (s.extract 0 1), .string (s.extract 2 3), .string (s.extract 4 5)] 59)).drew = W1 at *
          clear hbA hbX e9
          have hcl := Lib.hid (hone.out (w.heap.size + 1) 0 W1 (own_lt hX0) (own_cell hX0 rfl) (own_cell hX0 rfl) (own_cell hX0 rfl))
          go_wp2_with fail
          refine hcl.out.mono ?_
          rintro e w2 ⟨rfl, hb2⟩
          have hA1 := (hb2.block _ (own_lt hA0)).trans hA0
          have hX1 := (hb2.block _ (own_lt hX0)).trans hX0
          have hbw2 : Below w.heap.size w w2 := hbw.step hb2
          have L0 := own_cell hA1 (o := 0) rfl
          have L1 := own_cell hA1 (o := 1) rfl
          have L2 := own_cell hA1 (o := 2) rfl
          have F0 := own_frozen hA1 0
          have F1 := own_frozen hA1 1
          have F2 := own_frozen hA1 2
          have c0 := own_cell hX1 (o := 0) rfl
          have c1 := own_cell hX1 (o := 1) rfl
          have c2 := own_cell hX1 (o := 2) rfl
          have hlt := own_lt hA1
          clear hA0 hX0 hA1 hX1 hbw hb2 hcl hone
          go_wp2
          obtain ⟨z0, z1, z2⟩ := set3 (a := .string (s.extract 0 1)) (b := .string (s.extract 2 3)) (c := .string (s.extract 4 5)) L0 L1 L2
          have hbz : Below w.heap.size w (((w2.setCell ⟨w.heap.size, 0, none⟩ (.string (s.extract 0 1))).setCell ⟨w.heap.size, 1, none⟩ (.string (s.extract 2 3))).setCell ⟨w.heap.size, 2, none⟩ (.string (s.extract 4 5))) := (((hbw2.setCell (Nat.le_refl _) _).setCell (Nat.le_refl _) _).setCell (Nat.le_refl _) _)
          have hlz : w.heap.size < (((w2.setCell ⟨w.heap.size, 0, none⟩ (.string (s.extract 0 1))).setCell ⟨w.heap.size, 1, none⟩ (.string (s.extract 2 3))).setCell ⟨w.heap.size, 2, none⟩ (.string (s.extract 4 5))).heap.size := by simpa [World.setCell] using hlt
          generalize (((w2.setCell ⟨w.heap.size, 0, none⟩ (.string (s.extract 0 1))).setCell ⟨w.heap.size, 1, none⟩ (.string (s.extract 2 3))).setCell ⟨w.heap.size, 2, none⟩ (.string (s.extract 4 5))) = wz at *
          refine bodyPost_ret (v := .tuple #[.agg #[.string (s.extract 0 1), .string (s.extract 2 3), .string (s.extract 4 5)], .bool true]) (by simp [results, Try.results47, go_sem, z0, z1, z2, hlz]) rfl ?_
          exact ⟨ret12_o hres2.out, hbz⟩
      · have a61 : (((s[3]'p3).toNat : Int) == 61) = false := beq_eq_false_iff_ne.2 (by omega)
        have b61 : (((s[3]'p3).toNat : Int) != 61) = true := by rw [bne, a61]; rfl
        have d61 : ((s[3]'p3).toNat == 61) = false := beq_eq_false_iff_ne.2 hB
        have hres : Hid (r = (overZ, false)) := Lib.hid (by rw [hr.out, roR, if_pos h5, if_pos (by rw [bAt_eq p1]; exact hA), if_neg (by rw [bAt_eq p3]; exact hB)])
        replace hA := Lib.hid hA
        replace hB := Lib.hid hB
        replace h5 := Lib.hid h5
        clear hr
        go_enter Try.func47, Try.ntmps47
        go_wp2
        have z0 : (w.alloc (.cells #[.string ⟨#[]⟩, .string ⟨#[]⟩, .string ⟨#[]⟩] 59)).cell? ⟨w.heap.size, 0, none⟩ = some (.string ⟨#[]⟩) := cell_new rfl rfl
        have z1 : (w.alloc (.cells #[.string ⟨#[]⟩, .string ⟨#[]⟩, .string ⟨#[]⟩] 59)).cell? ⟨w.heap.size, 1, none⟩ = some (.string ⟨#[]⟩) := cell_new rfl rfl
        have z2 : (w.alloc (.cells #[.string ⟨#[]⟩, .string ⟨#[]⟩, .string ⟨#[]⟩] 59)).cell? ⟨w.heap.size, 2, none⟩ = some (.string ⟨#[]⟩) := cell_new rfl rfl
        have hbz : Below w.heap.size w (w.alloc (.cells #[.string ⟨#[]⟩, .string ⟨#[]⟩, .string ⟨#[]⟩] 59)) := below_a1 _ _
        have hlz : w.heap.size < (w.alloc (.cells #[.string ⟨#[]⟩, .string ⟨#[]⟩, .string ⟨#[]⟩] 59)).heap.size := by simp
        generalize (w.alloc (.cells #[.string ⟨#[]⟩, .string ⟨#[]⟩, .string ⟨#[]⟩] 59)) = wz at *
        refine bodyPost_ret (v := .tuple #[.agg #[.string ⟨#[]⟩, .string ⟨#[]⟩, .string ⟨#[]⟩], .bool false]) (by simp [results, Try.results47, go_sem, z0, z1, z2, hlz]) rfl ?_
        exact ⟨ret12_o hres.out, hbz⟩
    · have a60 : (((s[1]'p1).toNat : Int) == 60) = false := beq_eq_false_iff_ne.2 (by omega)
      have b60 : (((s[1]'p1).toNat : Int) != 60) = true := by rw [bne, a60]; rfl
      have d60 : ((s[1]'p1).toNat == 60) = false := beq_eq_false_iff_ne.2 hA
      have hres : Hid (r = (overZ, false)) := Lib.hid (by rw [hr.out, roR, if_pos h5, if_neg (by rw [bAt_eq p1]; exact hA)])
      replace hA := Lib.hid hA
      replace h5 := Lib.hid h5
      clear hr
      go_enter Try.func47, Try.ntmps47
      go_wp2
      have z0 : (w.alloc (.cells #[.string ⟨#[]⟩, .string ⟨#[]⟩, .string ⟨#[]⟩] 59)).cell? ⟨w.heap.size, 0, none⟩ = some (.string ⟨#[]⟩) := cell_new rfl rfl
      have z1 : (w.alloc (.cells #[.string ⟨#[]⟩, .string ⟨#[]⟩, .string ⟨#[]⟩] 59)).cell? ⟨w.heap.size, 1, none⟩ = some (.string ⟨#[]⟩) := cell_new rfl rfl
      have z2 : (w.alloc (.cells #[.string ⟨#[]⟩, .string ⟨#[]⟩, .string ⟨#[]⟩] 59)).cell? ⟨w.heap.size, 2, none⟩ = some (.string ⟨#[]⟩) := cell_new rfl rfl
      have hbz : Below w.heap.size w (w.alloc (.cells #[.string ⟨#[]⟩, .string ⟨#[]⟩, .string ⟨#[]⟩] 59)) := below_a1 _ _
      have hlz : w.heap.size < (w.alloc (.cells #[.string ⟨#[]⟩, .string ⟨#[]⟩, .string ⟨#[]⟩] 59)).heap.size := by simp
      generalize (w.alloc (.cells #[.string ⟨#[]⟩, .string ⟨#[]⟩, .string ⟨#[]⟩] 59)) = wz at *
      refine bodyPost_ret (v := .tuple #[.agg #[.string ⟨#[]⟩, .string ⟨#[]⟩, .string ⟨#[]⟩], .bool false]) (by simp [results, Try.results47, go_sem, z0, z1, z2, hlz]) rfl ?_
      exact ⟨ret12_o hres.out, hbz⟩
  · have a5 : ((s.size : Int) == 5) = false := beq_eq_false_iff_ne.2 (by omega)
    have b5 : ((s.size : Int) != 5) = true := by rw [bne, a5]; rfl
    have d5 : (s.size == 5) = false := beq_eq_false_iff_ne.2 h5
    have hres : Hid (r = (overZ, false)) := Lib.hid (by rw [hr.out, roR, if_neg h5])
    replace h5 := Lib.hid h5
    clear hr
    go_enter Try.func47, Try.ntmps47
    go_wp2
    have z0 : (w.alloc (.cells #[.string ⟨#[]⟩, .string ⟨#[]⟩, .string ⟨#[]⟩] 59)).cell? ⟨w.heap.size, 0, none⟩ = some (.string ⟨#[]⟩) := cell_new rfl rfl
    have z1 : (w.alloc (.cells #[.string ⟨#[]⟩, .string ⟨#[]⟩, .string ⟨#[]⟩] 59)).cell? ⟨w.heap.size, 1, none⟩ = some (.string ⟨#[]⟩) := cell_new rfl rfl
    have z2 : (w.alloc (.cells #[.string ⟨#[]⟩, .string ⟨#[]⟩, .string ⟨#[]⟩] 59)).cell? ⟨w.heap.size, 2, none⟩ = some (.string ⟨#[]⟩) := cell_new rfl rfl
    have hbz : Below w.heap.size w (w.alloc (.cells #[.string ⟨#[]⟩, .string ⟨#[]⟩, .string ⟨#[]⟩] 59)) := below_a1 _ _
    have hlz : w.heap.size < (w.alloc (.cells #[.string ⟨#[]⟩, .string ⟨#[]⟩, .string ⟨#[]⟩] 59)).heap.size := by simp
    generalize (w.alloc (.cells #[.string ⟨#[]⟩, .string ⟨#[]⟩, .string ⟨#[]⟩] 59)) = wz at *
    refine bodyPost_ret (v := .tuple #[.agg #[.string ⟨#[]⟩, .string ⟨#[]⟩, .string ⟨#[]⟩], .bool false]) (by simp [results, Try.results47, go_sem, z0, z1, z2, hlz]) rfl ?_
    exact ⟨ret12_o hres.out, hbz⟩
end Go.Proofs.Ytomnnhmhmehdjaa
