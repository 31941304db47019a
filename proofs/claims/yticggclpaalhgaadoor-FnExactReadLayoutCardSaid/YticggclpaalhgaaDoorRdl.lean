/- ReadLayout: the model's function and the program's. -/
import Derived.Test.YticggclpaalhgaaDoorSpl6
import Derived.Test.YticggclpaalhgaaDoorFlB
import Derived.Test.YticggclpaalhgaaDoorLayD
namespace Go.Proofs.YticggclpaalhgaaDoor
open Go.RowKit
set_option linter.unusedVariables false
set_option linter.unusedSimpArgs false

def rdlR (s : ByteArray) : List ByteArray × Bool := if (textFault rd0 0 s.data.toList).1 = 0 then (splitR s, true) else ([], false)
def RlOut (r : List ByteArray × Bool) (w : World) (e : Ending) (w' : World) : Prop := ∃ A n c, e = .returned (.tuple #[.agg #[.slice A n c], .bool r.2]) ∧ n ≤ 1048576 ∧ OStrs w' w.heap.size A n r.1 ∧ Below w.heap.size w w'
theorem tf_count : ∀ (l : List UInt8) (r : Rd) (i : Nat), r.row ≤ 3 → (textFault r i l).1 = 0 → l.count 47 + r.row ≤ 3
  | [], r, i, hr, h => by simpa using hr
  | c :: l, r, i, hr, h => by
    by_cases hz : r.byte c = 0
    · rw [textFault_step hz] at h
      by_cases h47 : c.toNat = 47
      · have hc : c = 47 := UInt8.toNat_inj.1 h47
        subst hc
        have e : r.byte 47 = r.brk := by simp [Rd.byte]
        have e2 : r.putByte 47 = r.next := by simp [Rd.putByte]
        rw [e] at hz
        rw [e2] at h
        have ih := tf_count l r.next (i + 1) (brk_row hz hr) h
        simp only [Rd.next] at ih
        rw [List.count_cons_self]
        omega
      · have e2 : r.putByte c = r.put c := by simp [Rd.putByte, h47]
        rw [e2] at h
        have ih := tf_count l (r.put c) (i + 1) hr h
        simp only [Rd.put] at ih
        rw [List.count_cons_of_ne (fun e => h47 (by rw [e]; rfl))]
        exact ih
    · rw [textFault_stop hz] at h
      exact absurd h hz
theorem split_len (s : ByteArray) (h : (textFault rd0 0 s.data.toList).1 = 0) : (splitR s).length ≤ 4 := by
  rw [← split_same, Lib.splitB_all ⟨#[47]⟩ (by decide) 0 _ s rfl]
  have h1 : Lib.countB s ⟨#[47]⟩ = s.data.toList.count 47 := Lib.count_one 47 s.data.toList
  have := tf_count s.data.toList rd0 0 (by simp [rd0]) h
  omega
theorem strs_own (w : World) (l : List ByteArray) : OStrs (w.alloc (.cells (l.map Value.string).toArray 9)) w.heap.size (some ⟨w.heap.size, 0, none⟩) l.length l := by
  refine ⟨rfl, .inr ⟨w.heap.size, l.length, fun j => ((l.map Value.string)[j]?).getD undef, rfl, Nat.le_refl _, ?_, by omega, fun i x hx j u hu => ?_⟩⟩
  · refine ⟨(l.map Value.string).toArray, heap_alloc_new _ _, by simp, fun i hi => ?_⟩
    simp only [List.getElem?_toArray]
    rw [List.getElem?_eq_getElem (by simpa using hi)]
    rfl
  · match j, hu with
    | 0, hu =>
      cases hu
      obtain ⟨h1, h2⟩ := List.getElem?_eq_some_iff.1 hx
      exact ⟨by omega, by simp [hx]⟩
    | j + 1, hu => simp [strC] at hu
theorem rdl_finish {w w2 : World} {r : List ByteArray × Bool} {A : Option Addr} {n c : Nat} {base : Nat} (hbw : Below w.heap.size w w2) (hO : OStrs w2 base A n r.1) (hb : w.heap.size + 1 ≤ base) :
    OStrs (w2.setCell ⟨w.heap.size, 0, none⟩ (.slice A n c)) w.heap.size A n r.1 ∧ Below w.heap.size w (w2.setCell ⟨w.heap.size, 0, none⟩ (.slice A n c)) :=
  ⟨(hO.mono (by omega)).block (fun p hp => Below.heap_setCell _ _ _ _ (by have := hO.own p hp; simp only; omega)), hbw.setCell (p := ⟨w.heap.size, 0, none⟩) (Nat.le_refl _) _⟩

set_option maxHeartbeats 1600000 in
theorem rdl_spec (s : ByteArray) (w : World) (hs : s.size ≤ 1048576) : Calls Tryd.prog 4 #[.string s] w (RlOut (rdlR s) w) := by
  generalize hr : rdlR s = r
  replace hr := Lib.hid hr.symm
  have hb0 := Lib.hid (below_a1 w (.cells #[.slice none 0 0] 24))
  have k0 : (w.alloc (.cells #[.slice none 0 0] 24)).cell? ⟨w.heap.size, 0, none⟩ = some (.slice none 0 0) := cell_new rfl rfl
  have f0 : (w.alloc (.cells #[.slice none 0 0] 24)).frozen? ⟨w.heap.size, 0, none⟩ = false := frozen_new rfl
  have hq := Lib.hid (fault6_spec s (w.alloc (.cells #[.slice none 0 0] 24)) hs)
  unfold faultI at hq
  by_cases hz : (textFault rd0 0 s.data.toList).1 = 0
  · have hres : Hid (r = (splitR s, true)) := Lib.hid (by rw [hr.out]; simp [rdlR, hz])
    have hsl := Lib.hid (split_len s hz)
    have hsp := Lib.hid (fun W => split_spec s W hs)
    rw [hz] at hq
    generalize (textFault rd0 0 s.data.toList).2 = at_ at *
    clear hz hr
    go_enter Tryd.func4, Tryd.ntmps4
    go_wp2_with fail
    refine hq.out.mono ?_
    rintro e w1 ⟨rfl, hb1⟩
    have hz1 := hb1.size
    simp only [World.size_alloc] at hz1
    go_wp2_with fail
    refine (hsp.out _).mono ?_
    rintro e w2 ⟨A, n, c, rfl, hn, hO, hb2⟩
    have hbw := Lib.hid ((hb0.out.step hb1).step hb2)
    have d0 := cell_step (cell_step k0 hb1) hb2
    have e0 := (hb2.frozen (p := ⟨w.heap.size, 0, none⟩) (by simp only; omega)).trans ((hb1.frozen (p := ⟨w.heap.size, 0, none⟩) (by simp)).trans f0)
    have hnl := hO.1
    obtain ⟨g1, g2⟩ := rdl_finish (r := r) (c := c) hbw.out (by rw [hres.out]; exact hO) (by omega)
    replace g1 := Lib.hid g1
    replace g2 := Lib.hid g2
    clear hO
    go_wp2
    have rc : (w2.setCell ⟨w.heap.size, 0, none⟩ (.slice A n c)).cell? ⟨w.heap.size, 0, none⟩ = some (.slice A n c) := World.cell?_setCell_same _ _ _ d0
    generalize w2.setCell ⟨w.heap.size, 0, none⟩ (.slice A n c) = wz at *
    refine bodyPost_ret (v := .tuple #[.agg #[.slice A n c], .bool true]) (by simp [results, Tryd.results4, go_sem, rc]) rfl ?_
    exact ⟨A, n, c, by rw [hres.out], by have := hsl.out; omega, g1.out, g2.out⟩
  · have hres : Hid (r = ([], false)) := Lib.hid (by rw [hr.out]; simp [rdlR, hz])
    generalize (textFault rd0 0 s.data.toList).2 = at_ at *
    generalize (textFault rd0 0 s.data.toList).1 = f at *
    have g0 : ((f : Int) == 0) = false := beq_eq_false_iff_ne.2 (by omega)
    have g1 : ((f : Int) != 0) = true := by simp; omega
    clear hz hr
    go_enter Tryd.func4, Tryd.ntmps4
    go_wp2_with fail
    refine hq.out.mono ?_
    rintro e w1 ⟨rfl, hb1⟩
    have hbw := Lib.hid (hb0.out.step hb1)
    have d0 := cell_step k0 hb1
    have e0 := (hb1.frozen (p := ⟨w.heap.size, 0, none⟩) (by simp)).trans f0
    go_wp2
    have rc : (w1.setCell ⟨w.heap.size, 0, none⟩ (.slice none 0 0)).cell? ⟨w.heap.size, 0, none⟩ = some (.slice none 0 0) := World.cell?_setCell_same _ _ _ d0
    have hbf := Lib.hid (hbw.out.setCell (p := ⟨w.heap.size, 0, none⟩) (Nat.le_refl _) (.slice none 0 0))
    generalize w1.setCell ⟨w.heap.size, 0, none⟩ (.slice none 0 0) = wz at *
    refine bodyPost_ret (v := .tuple #[.agg #[.slice none 0 0], .bool false]) (by simp [results, Tryd.results4, go_sem, rc]) rfl ?_
    exact ⟨none, 0, 0, by rw [hres.out], by omega, by rw [hres.out]; exact ⟨rfl, .inl ⟨rfl, rfl⟩⟩, hbf.out⟩
set_option maxHeartbeats 1600000 in
theorem rdl_impl (s : ByteArray) (w : World) (hs : s.size ≤ 1048576) : Calls Tryd.prog 5 #[.string s] w (RlOut (rdlR s) w) := by
  generalize hr : rdlR s = r
  replace hr := Lib.hid hr.symm
  have hb0 := Lib.hid (below_a1 w (.cells #[.slice none 0 0] 24))
  have k0 : (w.alloc (.cells #[.slice none 0 0] 24)).cell? ⟨w.heap.size, 0, none⟩ = some (.slice none 0 0) := cell_new rfl rfl
  have f0 : (w.alloc (.cells #[.slice none 0 0] 24)).frozen? ⟨w.heap.size, 0, none⟩ = false := frozen_new rfl
  have hq := Lib.hid (fault_impl s (w.alloc (.cells #[.slice none 0 0] 24)) hs)
  unfold faultI at hq
  by_cases hz : (textFault rd0 0 s.data.toList).1 = 0
  · have hres : Hid (r = (splitR s, true)) := Lib.hid (by rw [hr.out]; simp [rdlR, hz])
    have hsl := Lib.hid (split_len s hz)
    have hsp := Lib.hid (fun W => splitS_any s W hs)
    rw [hz] at hq
    generalize (textFault rd0 0 s.data.toList).2 = at_ at *
    clear hz hr
    go_enter Tryd.func5, Tryd.ntmps5
    go_wp2_with fail
    refine hq.out.mono ?_
    rintro e w1 ⟨rfl, hb1⟩
    have hz1 := hb1.size
    simp only [World.size_alloc] at hz1
    go_wp2_with fail
    refine (hsp.out _).mono ?_
    rintro e w2 ⟨rfl, hw2⟩
    have hb2 : Below w1.heap.size w1 w2 := by rw [hw2]; exact below_a1 _ _
    have hO : OStrs w2 w1.heap.size (some ⟨w1.heap.size, 0, none⟩) (splitR s).length (splitR s) := by rw [hw2]; exact strs_own w1 _
    have hbw := Lib.hid ((hb0.out.step hb1).step hb2)
    have d0 := cell_step (cell_step k0 hb1) hb2
    have e0 := (hb2.frozen (p := ⟨w.heap.size, 0, none⟩) (by simp only; omega)).trans ((hb1.frozen (p := ⟨w.heap.size, 0, none⟩) (by simp)).trans f0)
    obtain ⟨g1, g2⟩ := rdl_finish (r := r) (c := (splitR s).length) hbw.out (by rw [hres.out]; exact hO) (by omega)
    replace g1 := Lib.hid g1
    replace g2 := Lib.hid g2
    clear hO hw2
    generalize hL : (splitR s).length = n at *
    replace hL := Lib.hid hL
    go_wp2
    have rc : (w2.setCell ⟨w.heap.size, 0, none⟩ (.slice (some ⟨w1.heap.size, 0, none⟩) n n)).cell? ⟨w.heap.size, 0, none⟩ = some (.slice (some ⟨w1.heap.size, 0, none⟩) n n) := World.cell?_setCell_same _ _ _ d0
    generalize w2.setCell ⟨w.heap.size, 0, none⟩ (.slice (some ⟨w1.heap.size, 0, none⟩) n n) = wz at *
    refine bodyPost_ret (v := .tuple #[.agg #[.slice (some ⟨w1.heap.size, 0, none⟩) n n], .bool true]) (by simp [results, Tryd.results5, go_sem, rc]) rfl ?_
    exact ⟨_, n, n, by rw [hres.out], by have := hsl.out; omega, g1.out, g2.out⟩
  · have hres : Hid (r = ([], false)) := Lib.hid (by rw [hr.out]; simp [rdlR, hz])
    generalize (textFault rd0 0 s.data.toList).2 = at_ at *
    generalize (textFault rd0 0 s.data.toList).1 = f at *
    have g0 : ((f : Int) == 0) = false := beq_eq_false_iff_ne.2 (by omega)
    have g1 : ((f : Int) != 0) = true := by simp; omega
    clear hz hr
    go_enter Tryd.func5, Tryd.ntmps5
    go_wp2_with fail
    refine hq.out.mono ?_
    rintro e w1 ⟨rfl, hb1⟩
    have hbw := Lib.hid (hb0.out.step hb1)
    have d0 := cell_step k0 hb1
    have e0 := (hb1.frozen (p := ⟨w.heap.size, 0, none⟩) (by simp)).trans f0
    go_wp2
    have rc : (w1.setCell ⟨w.heap.size, 0, none⟩ (.slice none 0 0)).cell? ⟨w.heap.size, 0, none⟩ = some (.slice none 0 0) := World.cell?_setCell_same _ _ _ d0
    have hbf := Lib.hid (hbw.out.setCell (p := ⟨w.heap.size, 0, none⟩) (Nat.le_refl _) (.slice none 0 0))
    generalize w1.setCell ⟨w.heap.size, 0, none⟩ (.slice none 0 0) = wz at *
    refine bodyPost_ret (v := .tuple #[.agg #[.slice none 0 0], .bool false]) (by simp [results, Tryd.results5, go_sem, rc]) rfl ?_
    exact ⟨none, 0, 0, by rw [hres.out], by omega, by rw [hres.out]; exact ⟨rfl, .inl ⟨rfl, rfl⟩⟩, hbf.out⟩
end Go.Proofs.YticggclpaalhgaaDoor
