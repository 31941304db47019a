/- MirrorArrange: the model's function and the program's. -/
import Derived.Test.YtbhiimleagldgaaSwp2
import Derived.Deep.AppendLies
namespace Go.Proofs.Ytbhiimleagldgaa
open Go.RowKit
set_option linter.unusedVariables false
set_option linter.unusedSimpArgs false

def mirL (b : BasketD) (ps : List Int) : List Int := ps.map fun p => b.bars - 1 - p
def mirrorArrange (b : BasketD) (ps : List Int) : List Int × Int := if plCode b ps = 0 then (mirL b ps, 0) else ([], plCode b ps)
theorem mir_take {b : BasketD} {ps : List Int} {k : Nat} {x : Int} (hx : ps[k]? = some x) : (mirL b (ps.take (k + 1))).flatMap intC = (mirL b (ps.take k)).flatMap intC ++ [.int .i64 (b.bars - 1 - x)] := by
  obtain ⟨h1, rfl⟩ := List.getElem?_eq_some_iff.1 hx
  rw [List.take_succ_eq_append_getElem h1, mirL, List.map_append, List.flatMap_append]
  rfl
theorem mir_len {b : BasketD} {ps : List Int} {k : Nat} (hk : k ≤ ps.length) : (mirL b (ps.take k)).length = k := by simp [mirL]; omega

set_option maxRecDepth 100000 in
set_option maxHeartbeats 1600000 in
theorem mir_impl (b : BasketD) (A : Option Addr) (n c : Nat) (ps : List Int) (w : World) (hb : b.good) (h : Ints w A n ps) (hn : n ≤ 1048576) (hx : ∀ x ∈ ps, intGood x) :
    Calls Try.prog 11 #[.agg #[.int .i64 b.bars, .int .i64 b.rise, .int .i64 b.fall, .int .i64 b.clear, .int .i64 b.near], .slice A n n] w (SwOut (mirrorArrange b ps) w) := by
  generalize hr : mirrorArrange b ps = r
  replace hr := Lib.hid hr.symm
  have hnew := Lib.hid (box_new w b 25)
  have hb0 := Lib.hid (below_a1 w (.cells #[.int .i64 b.bars, .int .i64 b.rise, .int .i64 b.fall, .int .i64 b.clear, .int .i64 b.near] 25))
  have hl := Lib.hid h.1
  have hS := h.below hb0.out
  clear hx hb
  by_cases h0 : plCode b ps = 0
  · obtain ⟨h1, h2⟩ := plCode_ok h0
    have hc1 := Lib.hid (fun W (hW : Ints W A n ps) => codeP_impl b A n n ps h0 W hW hn (Nat.le_refl _))
    obtain ⟨n1, n7⟩ := placesOk_len h2
    rw [hl.out] at n1 n7
    have hres : Hid (r = (mirL b ps, 0)) := Lib.hid (by rw [hr.out, mirrorArrange, if_pos h0])
    obtain ⟨⟨q0, q1⟩, _⟩ := basketOk_iff.1 h1
    have hbars := Lib.hid (placesOk_bars h2)
    obtain ⟨i0, hi, hz0, hz1, hz2⟩ := info_parts Try.infoI64
    have hmk := fun W => run_make_many (P := Try.prog) 29 2 i0 _ Try.underlying29 hi hz0 .i64 .i64 n (by rw [hz2]; omega) (by omega) W
    rw [hz1] at hmk
    clear h0 h1 h2 hr h
    go_enter Try.func11, Try.ntmps11
    go_wp2_with fail
    refine (hc1.out _ hS).mono ?_
    rintro e w1 ⟨rfl, hb1⟩
    have hbel := Lib.hid (hb0.out.step hb1)
    have hbox := Lib.hid (hnew.out.step hb1)
    have hS2 := hS.below hb1
    clear hS hb1 hnew hc1
    go_wp2
    have hstart : Hid (Filled 1 intC (w1.alloc (.cells (madeCells #[Value.int IntKind.i64 0] n) 2)) w1.heap.size 2 n (mirL b ps) 0) := Lib.hid (.start _ (made_row _ _ _ _))
    have hbs := Lib.hid (below_a1 w1 (.cells (madeCells #[Value.int IntKind.i64 0] n) 2))
    generalize hws : w1.alloc (.cells (madeCells #[Value.int IntKind.i64 0] n) 2) = ws at *
    clear hws hmk
    generalize hN : w.heap.size = N at *
    replace hN := Lib.hid hN
    go_loopw [21] (fun i wr => ∃ k : Nat, k ≤ n ∧ i = .int .i64 k ∧ Below w1.heap.size w1 wr ∧ Filled 1 intC wr w1.heap.size 2 n (mirL b ps) k) (fun i _ => n - (intOf i).toNat)
    case atStart => exact ⟨0, by omega, rfl, hbs.out, hstart.out⟩
    case round =>
      obtain ⟨k, hk, rfl, hbo, hF⟩ := hrel
      by_cases hlt : k < n
      · obtain ⟨bb, off, x, rfl, hbb, hx, c0⟩ := int_at (hS2.below hbo) hlt
        obtain ⟨x0, x1⟩ := hasBar_iff.1 (hbars.out _ _ hx.out)
        have hk0 : (0 : Int) ≤ (k : Int) := Int.natCast_nonneg _
        have hk1 : (k : Int) < (n : Int) := by omega
        obtain ⟨d0, _⟩ := hbox.out.step hbo
        obtain ⟨f, hrow1⟩ := hF.row
        have d5 := hrow1.cell (i := k) (by omega)
        have e5 := hrow1.frozen k
        have hmx : (mirL b ps)[k]? = some (b.bars - 1 - x) := by rw [mirL, List.getElem?_map, hx.out]; rfl
        have hstep := Lib.hid (hF.step hmx (fun _ => rfl))
        simp only [intC, putRow, Nat.mul_one] at hstep
        have hbo1 := Lib.hid (hbo.setCell (p := ⟨w1.heap.size, k, none⟩) (Nat.le_refl _) (.int .i64 (b.bars - 1 - x)))
        replace hmx := Lib.hid hmx
        have s1 : IntKind.i64.wrap (b.bars - 1) = b.bars - 1 := IntWalk.i64_in _ (by omega)
        have s2 : IntKind.i64.wrap (b.bars - 1 - x) = b.bars - 1 - x := IntWalk.i64_in _ (by omega)
        go_wp2
        clear s1 s2
        go_roundw
        case rel => exact ⟨k + 1, by omega, by go_num, hbo1.out, hstep.out⟩
        case measure => simp [intOf]; omega
      · obtain rfl : k = n := by omega
        have hO' : OInts wr w1.heap.size (some ⟨w1.heap.size, 0, none⟩) k (mirL b ps) := ORow.of_filled (show Filled 1 intC wr w1.heap.size 2 (k * 1) (mirL b ps) k by simpa using hF) (by simp [mirL, hl.out]) (Nat.le_refl _) (fun _ => rfl)
        have hfin := Lib.hid (show OInts wr N (some ⟨w1.heap.size, 0, none⟩) k r.1 by rw [hres.out]; exact hO'.mono (by rw [← hN.out]; exact hbel.out.size))
        have hcode : Hid (r.2 = 0) := Lib.hid (by rw [hres.out])
        clear hF hO'
        go_wp2
        go_ret2
        obtain rfl := hN.out
        exact ⟨_, k, _, by rw [hcode.out]; rfl, by omega, hfin.out, hbel.out.step hbo⟩
  · have hres : Hid (r = ([], plCode b ps)) := Lib.hid (by rw [hr.out, mirrorArrange, if_neg h0])
    have hc1 := Lib.hid (fun W (hW : Ints W A n ps) => codeP_impl b A n n ps rfl W hW hn (Nat.le_refl _))
    have hcs := plCode_cases b ps
    generalize plCode b ps = q at *
    have hq0 : (q == 0) = false := by simpa using h0
    clear h0 hr
    rcases hcs with rfl | rfl | rfl
    · simp at hq0
    · clear hq0
      go_enter Try.func11, Try.ntmps11
      go_wp2_with fail
      refine (hc1.out _ hS).mono ?_
      rintro e w1 ⟨rfl, hb1⟩
      go_wp2
      go_ret2
      exact SwOut.bad hres.out (hb0.out.step hb1)
    · clear hq0
      go_enter Try.func11, Try.ntmps11
      go_wp2_with fail
      refine (hc1.out _ hS).mono ?_
      rintro e w1 ⟨rfl, hb1⟩
      go_wp2
      go_ret2
      exact SwOut.bad hres.out (hb0.out.step hb1)
end Go.Proofs.Ytbhiimleagldgaa
