/- The law on typed acts as one call: for every input it returns true. -/
import Derived.Test.YtiopeheockajaaaDoorTa1
import Derived.Test.YtiopeheockajaaaDoorDraw4c
import Derived.Test.YtiopeheockajaaaDoorFol5
import Derived.Test.YtiopeheockajaaaDoorMach5
import Derived.Test.YtiopeheockajaaaDoorLine1
import Derived.Test.YtiopeheockajaaaDoorText4
import Derived.Deep.RegionHeld3
namespace Go.Proofs.YtiopeheockajaaaDoor
open Go.RowKit
set_option linter.unusedVariables false
set_option linter.unusedSimpArgs false

theorem neq_act (x : ActD) (w : World) : (binOp .neq 48 (.agg #[.int .i64 x.kind, .string x.letter]) (.agg #[.int .i64 x.kind, .string x.letter])).run Tryd.prog w = .ok (.bool false) w := by
  have hS : Tryd.prog.underlying 48 = some (.struct (Tryd.prog.fieldsOf 48)) := by kernel_rfl
  have hp : Tryd.prog.stoodInHeld 48 = false := by kernel_rfl
  rw [run_neq_struct, show (10000 : Nat) = 9999 + 1 from rfl, run_equalIn_agg w 9999 48 _ _ hS hp]
  simp only [Program.fieldsOf, Tryd.underlying48]
  have u2 := Tryd.underlying2
  have u4 := Tryd.underlying9
  obtain ⟨a, s⟩ := x
  go_simp
theorem keptC {v W W1 : World} {a b c : Addr} {x y z : Value} (h : Below v.heap.size v W ∧ W.cell? a = some x ∧ W.cell? b = some y ∧ W.cell? c = some z) (hb : Below W.heap.size W W1) : Below v.heap.size v W1 ∧ W1.cell? a = some x ∧ W1.cell? b = some y ∧ W1.cell? c = some z :=
  ⟨h.1.step hb, cell_step h.2.1 hb, cell_step h.2.2.1 hb, cell_step h.2.2.2 hb⟩

set_option maxRecDepth 100000 in
set_option maxHeartbeats 8000000 in
theorem fnTypedActs_any (A0 : Option Addr) (n0 c0 : Nat) (xs0 : List Int) (w : World) (h0 : n0 ≤ maxLen ∧ Bytes w A0 n0 xs0 ∧ ∀ x ∈ xs0, byteGood x) :
    Calls Tryd.prog 4 #[.slice A0 n0 c0] w fun e w' => e = .returned (.bool true) ∧ Below w.heap.size w w' := by
  obtain ⟨hm0, P0, hg0⟩ := h0
  cases hbv : decide (4096 < n0) with
  | true =>
    have hbig := Lib.hid (big_any A0 n0 c0 w hm0 true hbv)
    clear hbv
    go_enter Tryd.func4, Tryd.ntmps4
    go_wp2_with fail
    refine hbig.out.mono ?_
    rintro e w' ⟨rfl, rfl⟩
    go_wp2
    go_ret
    exact ⟨rfl, Below.refl _ _⟩
  | false =>
    have hbig := Lib.hid (big_any A0 n0 c0 w hm0 false hbv)
    clear hbv
    replace hg0 := Lib.hid hg0
    go_enter Tryd.func4, Tryd.ntmps4
    go_wp2_with fail
    refine hbig.out.mono ?_
    rintro e w' ⟨rfl, rfl⟩
    go_wp2_with fail
    refine (drawAF_any A0 n0 c0 xs0 w hm0 P0 hg0.out).mono ?_
    rintro e w1 ⟨c, s, rfl, hcg, hs, hb1⟩
    have hC1 := CRow.new w1 c.left c.right c.bell
    have hba := below_a1 w1 (.cells #[.int .i64 c.left, .int .i64 c.right, .int .i64 c.bell] 27)
    have hd1 := hb1.step hba
    go_wp2_with fail
    have hP1 := hC1.lt
    generalize w1.alloc (.cells #[.int .i64 c.left, .int .i64 c.right, .int .i64 c.bell] 27) = w2 at *
    generalize w1.heap.size = P at *
    clear hba hb1 hbig
    obtain ⟨p0, p1, p2⟩ := hC1.cells
    go_wp2_with fail
    refine (afl_impl c s w2 hcg (by omega)).mono ?_
    rintro e w3 ⟨Aa, na, ca, rfl, hna, ha, hb3⟩
    have hlna : (aflR c s).1.length = na := ha.1
    replace ha := ha.srow
    have hC3 := hC1.below hb3
    have hd3 := hd1.step hb3
    clear p0 p1 p2 hb3 hC1 hd1
    obtain ⟨p0, p1, p2⟩ := hC3.cells
    go_wp2_with fail
    refine (afl_spec c s w3 hcg (by omega)).mono ?_
    rintro e w4 ⟨Ab, nb, cb, rfl, hnb, hbR, hb4⟩
    have hlnb : (aflR c s).1.length = nb := hbR.1
    obtain rfl : na = nb := hlna.symm.trans hlnb
    replace hbR := hbR.srow
    replace ha := ha.below hb4
    have hC4 := hC3.below hb4
    have hd4 := hd3.step hb4
    clear p0 p1 p2 hb4 hC3 hd3 hlnb hnb
    go_wp2_with fail
    refine (drawTA_any A0 n0 c0 xs0 w4 hm0 (P0.below hd4) hg0.out).mono ?_
    rintro e w5 ⟨b, Ay, ny, cy, ys, rfl, hbg, hny, hy, hyd, _, hb5⟩
    have hyg : ∀ y ∈ ys, y.good := fun y h => actD.good (hyd y h)
    clear hyd
    replace hyg := Lib.hid hyg
    replace ha := ha.below hb5
    replace hbR := hbR.below hb5
    have hC5 := hC4.below hb5
    have hd5 := hd4.step hb5
    clear hb5 hC4 hd4 P0 hg0
    have hB6 := CRow.new w5 b.left b.right b.bell
    have hba := below_a1 w5 (.cells #[.int .i64 b.left, .int .i64 b.right, .int .i64 b.bell] 27)
    replace ha := ha.below hba
    replace hbR := hbR.below hba
    replace hy := hy.below hba
    have hC6 := hC5.below hba
    have hd6 := hd5.step hba
    go_wp2_with fail
    generalize w5.alloc (.cells #[.int .i64 b.left, .int .i64 b.right, .int .i64 b.bell] 27) = w6 at *
    generalize w5.heap.size = Q at *
    clear hba hC5 hd5
    obtain ⟨q0, q1, q2⟩ := hB6.cells
    go_wp2_with fail
    refine (typed_impl b Ay ny cy ys w6 hbg hy (by omega) hyg.out).mono ?_
    rintro e w7 ⟨Al, nl, cl, rfl, hnl, hl, hb7⟩
    have hlnl : (typed b ys).1.length = nl := hl.1
    replace hl := hl.srow
    replace ha := ha.below hb7
    replace hbR := hbR.below hb7
    replace hy := hy.below hb7
    have hC7 := hC6.below hb7
    have hB7 := hB6.below hb7
    have hd7 := hd6.step hb7
    clear hb7 hC6 hB6 hd6 q0 q1 q2
    obtain ⟨q0, q1, q2⟩ := hB7.cells
    go_wp2_with fail
    refine (typed_spec b Ay ny cy ys w7 hbg hy (by omega) hyg.out).mono ?_
    rintro e w8 ⟨Am, nm, cm, rfl, hnm, hm, hb8⟩
    have hlnm : (typed b ys).1.length = nm := hm.1
    obtain rfl : nl = nm := hlnl.symm.trans hlnm
    replace hm := hm.srow
    replace hl := hl.below hb8
    replace ha := ha.below hb8
    replace hbR := hbR.below hb8
    replace hy := hy.below hb8
    have hC8 := hC7.below hb8
    have hB8 := hB7.below hb8
    have hd8 := hd7.step hb8
    clear hb8 hC7 hB7 hd7 q0 q1 q2
    obtain ⟨q0, q1, q2⟩ := hB8.cells
    go_wp2_with fail
    refine (locked_impl b Ay ny cy ys w8 hbg hy (by omega) hyg.out).mono ?_
    rintro e w9 ⟨rfl, hb9⟩
    replace hl := hl.below hb9
    replace hm := hm.below hb9
    replace ha := ha.below hb9
    replace hbR := hbR.below hb9
    replace hy := hy.below hb9
    have hC9 := hC8.below hb9
    have hB9 := hB8.below hb9
    have hd9 := hd8.step hb9
    clear hb9 hC8 hB8 hd8 q0 q1 q2
    obtain ⟨q0, q1, q2⟩ := hB9.cells
    go_wp2_with fail
    refine (locked_spec b Ay ny cy ys w9 hbg hy (by omega) hyg.out).mono ?_
    rintro e w10 ⟨rfl, hb10⟩
    replace hl := hl.below hb10
    replace hm := hm.below hb10
    replace ha := ha.below hb10
    replace hbR := hbR.below hb10
    replace hy := hy.below hb10
    have hC10 := hC9.below hb10
    have hB10 := hB9.below hb10
    have hd10 := hd9.step hb10
    clear hb10 hC9 hB9 hd9 q0 q1 q2
    obtain ⟨q0, q1, q2⟩ := hB10.cells
    go_wp2_with fail
    refine (bells_impl b Ay ny cy ys w10 hbg hy (by omega) hyg.out).mono ?_
    rintro e w11 ⟨rfl, hb11⟩
    replace hl := hl.below hb11
    replace hm := hm.below hb11
    replace ha := ha.below hb11
    replace hbR := hbR.below hb11
    replace hy := hy.below hb11
    have hC11 := hC10.below hb11
    have hB11 := hB10.below hb11
    have hd11 := hd10.step hb11
    clear hb11 hC10 hB10 hd10 q0 q1 q2
    obtain ⟨q0, q1, q2⟩ := hB11.cells
    go_wp2_with fail
    refine (bells_spec b Ay ny cy ys w11 hbg hy (by omega) hyg.out).mono ?_
    rintro e w12 ⟨rfl, hb12⟩
    replace hl := hl.below hb12
    replace hm := hm.below hb12
    replace ha := ha.below hb12
    replace hbR := hbR.below hb12
    replace hy := hy.below hb12
    have hC12 := hC11.below hb12
    have hB12 := hB11.below hb12
    have hd12 := hd11.step hb12
    clear hb12 hC11 hB11 hd11 q0 q1 q2
    obtain ⟨q0, q1, q2⟩ := hB12.cells
    have hstop := fun h => stop_told (c := b) (l := ys) h
    have hres := fun h => afl_typed (c := c) (s := s) h
    have hsame : Hid (∀ W, Below w12.heap.size w12 W → Calls Tryd.prog 20 #[.slice Al nl cl, .slice Am nl cm] W fun e w' => e = .returned (.bool true) ∧ Below W.heap.size W w') := Lib.hid fun W hW => by
      have hgl := typed_good hbg hyg.out
      have h := same_spec Al nl cl (typed b ys).1 Am nl cm (typed b ys).1 W (hl.below hW) (by omega) hgl (hm.below hW) (by omega) hgl
      rwa [eqStrucks_refl] at h
    have htxi : Hid (∀ W, Below w12.heap.size w12 W → Calls Tryd.prog 21 #[.slice Ay ny cy] W fun e w' => e = .returned (.string (textR4 ys)) ∧ Below W.heap.size W w') := Lib.hid fun W hW => text_impl4 Ay ny cy ys W (hy.below hW) (by omega) hyg.out
    have htxs : Hid (∀ W, Below w12.heap.size w12 W → Calls Tryd.prog 22 #[.slice Ay ny cy] W fun e w' => e = .returned (.string (textR4 ys)) ∧ Below W.heap.size W w') := Lib.hid fun W hW => text_spec4 Ay ny cy ys W (hy.below hW) (by omega) hyg.out
    have hvai : Hid (∀ W, Below w12.heap.size w12 W → Calls Tryd.prog 23 #[.slice Ay ny cy] W fun e w' => e = .returned (.bool (actsOk ys)) ∧ Below W.heap.size W w') := Lib.hid fun W hW => va_impl Ay ny cy ys W (hy.below hW) (by omega) hyg.out
    have hvas : Hid (∀ W, Below w12.heap.size w12 W → Calls Tryd.prog 24 #[.slice Ay ny cy] W fun e w' => e = .returned (.bool (actsOk ys)) ∧ Below W.heap.size W w') := Lib.hid fun W hW => va_spec Ay ny cy ys W (hy.below hW) (by omega) hyg.out
    have hvci : Hid (∀ W, Calls Tryd.prog 25 #[.agg #[.int .i64 b.left, .int .i64 b.right, .int .i64 b.bell]] W fun e w' => e = .returned (.bool (carOk b)) ∧ Below W.heap.size W w') := Lib.hid fun W => vc_impl b W hbg
    have hvcs : Hid (∀ W, Calls Tryd.prog 26 #[.agg #[.int .i64 b.left, .int .i64 b.right, .int .i64 b.bell]] W fun e w' => e = .returned (.bool (carOk b)) ∧ Below W.heap.size W w') := Lib.hid fun W => vc_spec b W hbg
    generalize hRR : aflR c s = RR at *
    obtain ⟨R1, R2⟩ := RR
    simp only at *
    generalize (typed b ys).2.2 = tc at *
    generalize (typed b ys).2.1 = tp at *
    generalize (lockedR b ys).1 = la at *
    generalize (lockedR b ys).2 = lc at *
    generalize (bellsR b ys).1 = ba at *
    generalize (bellsR b ys).2 = bc at *
    generalize textR4 ys = TX at *
    generalize actsOk ys = VA at *
    generalize carOk b = VC at *
    replace hstop := Lib.hid hstop
    replace hres := Lib.hid hres
    clear hlnl hlnm hyg hy hl hm hbg
    obtain ⟨k0, k1, k2⟩ := hB12.cells
    go_wp2_with fail
    refine wp_region_held_drew (S := fun w' => Below w12.heap.size w12 w' ∧ w'.cell? ⟨Q, 0, none⟩ = some (.int .i64 b.left) ∧ w'.cell? ⟨Q, 1, none⟩ = some (.int .i64 b.right) ∧ w'.cell? ⟨Q, 2, none⟩ = some (.int .i64 b.bell)) (by kernel_rfl) ?_ (fun hHeld => ?_)
    · exact ⟨(Below.refl _ _).drew, k0, k1, k2⟩
    refine wpAnyH_take (i := 0) (v := ?vq0) rfl (by kernel_rfl) (by kernel_rfl) (by kernel_rfl) (fun _ _ _ h => h) (Or.inl ⟨rfl, ?yq0⟩) (by assumption) ?_
    case yq0 => (intro w hSw; (try dsimp only at hSw); go_simp; first | done | with_reducible rfl)
    simp only [List.getElem_toArray, List.getElem_cons_succ, List.getElem_cons_zero, Act.put, List.setIfInBounds_toArray, List.set_cons_zero, List.set_cons_succ]
    refine wpAnyH_take (i := 1) (v := ?vq1) rfl (by kernel_rfl) (by kernel_rfl) (by kernel_rfl) (fun _ _ _ h => h) (Or.inl ⟨rfl, ?yq1⟩) (by assumption) ?_
    case yq1 => (intro w hSw; (try dsimp only at hSw); go_simp; first | done | with_reducible rfl)
    simp only [List.getElem_toArray, List.getElem_cons_succ, List.getElem_cons_zero, Act.put, List.setIfInBounds_toArray, List.set_cons_zero, List.set_cons_succ]
    refine wpAnyH_take (i := 2) (v := ?vq2) rfl (by kernel_rfl) (by kernel_rfl) (by kernel_rfl) (fun _ _ _ h => h) (Or.inl ⟨rfl, ?yq2⟩) (by assumption) ?_
    case yq2 => (intro w hSw; (try dsimp only at hSw); go_simp; first | done | with_reducible rfl)
    simp only [List.getElem_toArray, List.getElem_cons_succ, List.getElem_cons_zero, Act.put, List.setIfInBounds_toArray, List.set_cons_zero, List.set_cons_succ]
    refine wpAnyH_take (i := 3) (v := ?vq3) rfl (by kernel_rfl) (by kernel_rfl) (by kernel_rfl) (fun _ _ _ h => h) (Or.inl ⟨rfl, ?yq3⟩) (by assumption) ?_
    case yq3 => (intro w hSw; (try dsimp only at hSw); go_simp; first | done | with_reducible rfl)
    simp only [List.getElem_toArray, List.getElem_cons_succ, List.getElem_cons_zero, Act.put, List.setIfInBounds_toArray, List.set_cons_zero, List.set_cons_succ]
    refine wpAnyH_take (i := 4) (v := ?vq4) rfl (by kernel_rfl) (by kernel_rfl) (by kernel_rfl) (fun _ _ _ h => h) (Or.inl ⟨rfl, ?yq4⟩) (by assumption) ?_
    case yq4 => (intro w hSw; (try dsimp only at hSw); go_simp; first | done | with_reducible rfl)
    simp only [List.getElem_toArray, List.getElem_cons_succ, List.getElem_cons_zero, Act.put, List.setIfInBounds_toArray, List.set_cons_zero, List.set_cons_succ]
    refine wpAnyH_take (i := 5) (v := ?vq5) rfl (by kernel_rfl) (by kernel_rfl) (by kernel_rfl) (fun _ _ _ h => h) (Or.inl ⟨rfl, ?yq5⟩) (by assumption) ?_
    case yq5 => (intro w hSw; (try dsimp only at hSw); go_simp; first | done | with_reducible rfl)
    simp only [List.getElem_toArray, List.getElem_cons_succ, List.getElem_cons_zero, Act.put, List.setIfInBounds_toArray, List.set_cons_zero, List.set_cons_succ]
    refine wpAnyH_take (i := 6) (v := ?vq6) rfl (by kernel_rfl) (by kernel_rfl) (by kernel_rfl) (fun _ _ _ h => h) (Or.inl ⟨rfl, ?yq6⟩) (by assumption) ?_
    case yq6 => (intro w hSw; (try dsimp only at hSw); go_simp; first | done | with_reducible rfl)
    simp only [List.getElem_toArray, List.getElem_cons_succ, List.getElem_cons_zero, Act.put, List.setIfInBounds_toArray, List.set_cons_zero, List.set_cons_succ]
    refine wpAnyH_take (i := 7) (v := ?vq7) rfl (by kernel_rfl) (by kernel_rfl) (by kernel_rfl) (fun _ _ _ h => h) (Or.inl ⟨rfl, ?yq7⟩) (by assumption) ?_
    case yq7 => (intro w hSw; (try dsimp only at hSw); go_simp; first | done | with_reducible rfl)
    simp only [List.getElem_toArray, List.getElem_cons_succ, List.getElem_cons_zero, Act.put, List.setIfInBounds_toArray, List.set_cons_zero, List.set_cons_succ]
    refine wpAnyH_take (i := 8) (v := ?vq8) rfl (by kernel_rfl) (by kernel_rfl) (by kernel_rfl) (fun _ _ _ h => h) (Or.inl ⟨rfl, ?yq8⟩) (by assumption) ?_
    case yq8 => (intro w hSw; (try dsimp only at hSw); go_simp; first | done | with_reducible rfl)
    simp only [List.getElem_toArray, List.getElem_cons_succ, List.getElem_cons_zero, Act.put, List.setIfInBounds_toArray, List.set_cons_zero, List.set_cons_succ]
    refine wpAnyH_take (i := 9) (v := ?vq9) rfl (by kernel_rfl) (by kernel_rfl) (by kernel_rfl) (fun _ _ _ h => h) (Or.inl ⟨rfl, ?yq9⟩) (by assumption) ?_
    case yq9 => (intro w hSw; (try dsimp only at hSw); go_simp; first | done | with_reducible rfl)
    simp only [List.getElem_toArray, List.getElem_cons_succ, List.getElem_cons_zero, Act.put, List.setIfInBounds_toArray, List.set_cons_zero, List.set_cons_succ]
    refine wpAnyH_take (i := 10) (v := ?vq10) rfl (by kernel_rfl) (by kernel_rfl) (by kernel_rfl) (fun _ _ _ h => h) (Or.inl ⟨rfl, ?yq10⟩) (by assumption) ?_
    case yq10 => (intro w hSw; (try dsimp only at hSw); go_simp; first | done | with_reducible rfl)
    simp only [List.getElem_toArray, List.getElem_cons_succ, List.getElem_cons_zero, Act.put, List.setIfInBounds_toArray, List.set_cons_zero, List.set_cons_succ]
    refine wpAnyH_take (i := 11) (v := ?vq11) rfl (by kernel_rfl) (by kernel_rfl) (by kernel_rfl) (fun _ _ _ h => h) (Or.inl ⟨rfl, ?yq11⟩) (by assumption) ?_
    case yq11 => (intro w hSw; (try dsimp only at hSw); go_simp; first | done | with_reducible rfl)
    simp only [List.getElem_toArray, List.getElem_cons_succ, List.getElem_cons_zero, Act.put, List.setIfInBounds_toArray, List.set_cons_zero, List.set_cons_succ]
    refine wpAnyH_take (i := 12) (v := ?vq12) rfl (by kernel_rfl) (by kernel_rfl) (by kernel_rfl) (fun _ _ _ h => h) (Or.inl ⟨rfl, ?yq12⟩) (by assumption) ?_
    case yq12 => (intro w hSw; (try dsimp only at hSw); go_simp; first | done | with_reducible rfl)
    simp only [List.getElem_toArray, List.getElem_cons_succ, List.getElem_cons_zero, Act.put, List.setIfInBounds_toArray, List.set_cons_zero, List.set_cons_succ]
    refine wpAnyH_take (i := 13) (v := ?vq13) rfl (by kernel_rfl) (by kernel_rfl) (by kernel_rfl) (fun _ _ _ h => h) (Or.inl ⟨rfl, ?yq13⟩) (by assumption) ?_
    case yq13 => (intro w hSw; (try dsimp only at hSw); go_simp; first | done | with_reducible rfl)
    simp only [List.getElem_toArray, List.getElem_cons_succ, List.getElem_cons_zero, Act.put, List.setIfInBounds_toArray, List.set_cons_zero, List.set_cons_succ]
    refine wpAnyH_take (i := 14) (v := ?vq14) rfl (by kernel_rfl) (by kernel_rfl) (by kernel_rfl) (fun _ _ _ h => h) (Or.inl ⟨rfl, ?yq14⟩) (by assumption) ?_
    case yq14 => (intro w hSw; (try dsimp only at hSw); go_simp; first | done | with_reducible rfl)
    simp only [List.getElem_toArray, List.getElem_cons_succ, List.getElem_cons_zero, Act.put, List.setIfInBounds_toArray, List.set_cons_zero, List.set_cons_succ]
    refine wpAnyH_take (i := 15) (v := ?vq15) rfl (by kernel_rfl) (by kernel_rfl) (by kernel_rfl) (fun _ _ _ h => h) (Or.inl ⟨rfl, ?yq15⟩) (by assumption) ?_
    case yq15 => (intro w hSw; (try dsimp only at hSw); go_simp; first | done | with_reducible rfl)
    simp only [List.getElem_toArray, List.getElem_cons_succ, List.getElem_cons_zero, Act.put, List.setIfInBounds_toArray, List.set_cons_zero, List.set_cons_succ]
    refine wpAnyH_take (i := 16) (v := ?vq16) rfl (by kernel_rfl) (by kernel_rfl) (by kernel_rfl) (fun _ _ _ h => h) (Or.inl ⟨rfl, ?yq16⟩) (by assumption) ?_
    case yq16 => (intro w hSw; (try dsimp only at hSw); go_simp; first | done | with_reducible rfl)
    simp only [List.getElem_toArray, List.getElem_cons_succ, List.getElem_cons_zero, Act.put, List.setIfInBounds_toArray, List.set_cons_zero, List.set_cons_succ]
    refine wpAnyH_take (i := 17) (v := ?vq17) rfl (by kernel_rfl) (by kernel_rfl) (by kernel_rfl) (fun _ _ _ h => h) (Or.inl ⟨rfl, ?yq17⟩) (by assumption) ?_
    case yq17 => (intro w hSw; (try dsimp only at hSw); go_simp; first | done | with_reducible rfl)
    simp only [List.getElem_toArray, List.getElem_cons_succ, List.getElem_cons_zero, Act.put, List.setIfInBounds_toArray, List.set_cons_zero, List.set_cons_succ]
    refine wpAnyH_take (i := 18) (v := ?vq18) rfl (by kernel_rfl) (by kernel_rfl) (by kernel_rfl) (fun _ _ _ h => h) (Or.inl ⟨rfl, ?yq18⟩) (by assumption) ?_
    case yq18 => (intro w hSw; (try dsimp only at hSw); go_simp; first | done | with_reducible rfl)
    simp only [List.getElem_toArray, List.getElem_cons_succ, List.getElem_cons_zero, Act.put, List.setIfInBounds_toArray, List.set_cons_zero, List.set_cons_succ]
    refine wpAnyH_take (i := 19) (v := ?vq19) rfl (by kernel_rfl) (by kernel_rfl) (by kernel_rfl) (fun _ _ _ h => h) (Or.inl ⟨rfl, ?yq19⟩) (by assumption) ?_
    case yq19 => (intro w hSw; (try dsimp only at hSw); go_simp; first | done | with_reducible rfl)
    simp only [List.getElem_toArray, List.getElem_cons_succ, List.getElem_cons_zero, Act.put, List.setIfInBounds_toArray, List.set_cons_zero, List.set_cons_succ]
    refine wpAnyH_take (i := 20) (v := ?vq20) rfl (by kernel_rfl) (by kernel_rfl) (by kernel_rfl) (fun _ _ _ h => h) (Or.inl ⟨rfl, ?yq20⟩) (by assumption) ?_
    case yq20 => (intro w hSw; (try dsimp only at hSw); go_simp; first | done | with_reducible rfl)
    simp only [List.getElem_toArray, List.getElem_cons_succ, List.getElem_cons_zero, Act.put, List.setIfInBounds_toArray, List.set_cons_zero, List.set_cons_succ]
    refine wpAnyH_take (i := 21) (v := ?vq21) rfl (by kernel_rfl) (by kernel_rfl) (by kernel_rfl) (fun _ _ _ h => h) (Or.inl ⟨rfl, ?yq21⟩) (by assumption) ?_
    case yq21 => (intro w hSw; (try dsimp only at hSw); go_simp; first | done | with_reducible rfl)
    simp only [List.getElem_toArray, List.getElem_cons_succ, List.getElem_cons_zero, Act.put, List.setIfInBounds_toArray, List.set_cons_zero, List.set_cons_succ]
    refine wpAnyH_take (i := 22) (v := ?vq22) rfl (by kernel_rfl) (by kernel_rfl) (by kernel_rfl) (fun _ _ _ h => h) (Or.inl ⟨rfl, ?yq22⟩) (by assumption) ?_
    case yq22 => (intro w hSw; (try dsimp only at hSw); go_simp; first | done | with_reducible rfl)
    simp only [List.getElem_toArray, List.getElem_cons_succ, List.getElem_cons_zero, Act.put, List.setIfInBounds_toArray, List.set_cons_zero, List.set_cons_succ]
    refine wpAnyH_ready (rs := [23]) (by kernel_rfl) (by simp) ?_
    refine AllReadyH.cons rfl (fun K hK => ?_) AllReadyH.nil
    go_simp
    refine (hsame.out _ hHeld.1).mono ?_
    rintro e w1 ⟨rfl, hb1⟩
    go_wp2_with fail
    refine hK.out _ _ ?_ (fun hHeld => ?_)
    · exact keptC (by assumption) hb1
    clear hK K hb1
    try simp only [List.getElem_toArray, List.getElem_cons_succ, List.getElem_cons_zero, Act.put, List.setIfInBounds_toArray, List.set_cons_zero, List.set_cons_succ]
    refine wpAnyH_take (i := 24) (v := ?vq24) rfl (by kernel_rfl) (by kernel_rfl) (by kernel_rfl) (fun _ _ _ h => h) (Or.inl ⟨rfl, ?yq24⟩) (by assumption) ?_
    case yq24 => (intro w hSw; (try dsimp only at hSw); go_simp; first | done | with_reducible rfl)
    simp only [List.getElem_toArray, List.getElem_cons_succ, List.getElem_cons_zero, Act.put, List.setIfInBounds_toArray, List.set_cons_zero, List.set_cons_succ]
    refine wpAnyH_take (i := 25) (v := ?vq25) rfl (by kernel_rfl) (by kernel_rfl) (by kernel_rfl) (fun _ _ _ h => h) (Or.inl ⟨rfl, ?yq25⟩) (by assumption) ?_
    case yq25 => (intro w hSw; (try dsimp only at hSw); go_simp; first | done | with_reducible rfl)
    simp only [List.getElem_toArray, List.getElem_cons_succ, List.getElem_cons_zero, Act.put, List.setIfInBounds_toArray, List.set_cons_zero, List.set_cons_succ]
    refine wpAnyH_take (i := 26) (v := ?vq26) rfl (by kernel_rfl) (by kernel_rfl) (by kernel_rfl) (fun _ _ _ h => h) (Or.inl ⟨rfl, ?yq26⟩) (by assumption) ?_
    case yq26 => (intro w hSw; (try dsimp only at hSw); go_simp; first | done | with_reducible rfl)
    simp only [List.getElem_toArray, List.getElem_cons_succ, List.getElem_cons_zero, Act.put, List.setIfInBounds_toArray, List.set_cons_zero, List.set_cons_succ]
    refine wpAnyH_take (i := 27) (v := ?vq27) rfl (by kernel_rfl) (by kernel_rfl) (by kernel_rfl) (fun _ _ _ h => h) (Or.inl ⟨rfl, ?yq27⟩) (by assumption) ?_
    case yq27 => (intro w hSw; (try dsimp only at hSw); go_simp; first | done | with_reducible rfl)
    simp only [List.getElem_toArray, List.getElem_cons_succ, List.getElem_cons_zero, Act.put, List.setIfInBounds_toArray, List.set_cons_zero, List.set_cons_succ]
    refine wpAnyH_take (i := 28) (v := ?vq28) rfl (by kernel_rfl) (by kernel_rfl) (by kernel_rfl) (fun _ _ _ h => h) (Or.inl ⟨rfl, ?yq28⟩) (by assumption) ?_
    case yq28 => (intro w hSw; (try dsimp only at hSw); go_simp; first | done | with_reducible rfl)
    simp only [List.getElem_toArray, List.getElem_cons_succ, List.getElem_cons_zero, Act.put, List.setIfInBounds_toArray, List.set_cons_zero, List.set_cons_succ]
    refine wpAnyH_take (i := 29) (v := ?vq29) rfl (by kernel_rfl) (by kernel_rfl) (by kernel_rfl) (fun _ _ _ h => h) (Or.inl ⟨rfl, ?yq29⟩) (by assumption) ?_
    case yq29 => (intro w hSw; (try dsimp only at hSw); go_simp; first | done | with_reducible rfl)
    simp only [List.getElem_toArray, List.getElem_cons_succ, List.getElem_cons_zero, Act.put, List.setIfInBounds_toArray, List.set_cons_zero, List.set_cons_succ]
    refine wpAnyH_take (i := 30) (v := ?vq30) rfl (by kernel_rfl) (by kernel_rfl) (by kernel_rfl) (fun _ _ _ h => h) (Or.inl ⟨rfl, ?yq30⟩) (by assumption) ?_
    case yq30 => (intro w hSw; (try dsimp only at hSw); go_simp; first | done | with_reducible rfl)
    simp only [List.getElem_toArray, List.getElem_cons_succ, List.getElem_cons_zero, Act.put, List.setIfInBounds_toArray, List.set_cons_zero, List.set_cons_succ]
    refine wpAnyH_take (i := 31) (v := ?vq31) rfl (by kernel_rfl) (by kernel_rfl) (by kernel_rfl) (fun _ _ _ h => h) (Or.inl ⟨rfl, ?yq31⟩) (by assumption) ?_
    case yq31 => (intro w hSw; (try dsimp only at hSw); go_simp; first | done | with_reducible rfl)
    simp only [List.getElem_toArray, List.getElem_cons_succ, List.getElem_cons_zero, Act.put, List.setIfInBounds_toArray, List.set_cons_zero, List.set_cons_succ]
    refine wpAnyH_take (i := 32) (v := ?vq32) rfl (by kernel_rfl) (by kernel_rfl) (by kernel_rfl) (fun _ _ _ h => h) (Or.inl ⟨rfl, ?yq32⟩) (by assumption) ?_
    case yq32 => (intro w hSw; (try dsimp only at hSw); go_simp; first | done | with_reducible rfl)
    simp only [List.getElem_toArray, List.getElem_cons_succ, List.getElem_cons_zero, Act.put, List.setIfInBounds_toArray, List.set_cons_zero, List.set_cons_succ]
    refine wpAnyH_take (i := 33) (v := ?vq33) rfl (by kernel_rfl) (by kernel_rfl) (by kernel_rfl) (fun _ _ _ h => h) (Or.inl ⟨rfl, ?yq33⟩) (by assumption) ?_
    case yq33 => (intro w hSw; (try dsimp only at hSw); go_simp; first | done | with_reducible rfl)
    simp only [List.getElem_toArray, List.getElem_cons_succ, List.getElem_cons_zero, Act.put, List.setIfInBounds_toArray, List.set_cons_zero, List.set_cons_succ]
    refine wpAnyH_take (i := 34) (v := ?vq34) rfl (by kernel_rfl) (by kernel_rfl) (by kernel_rfl) (fun _ _ _ h => h) (Or.inl ⟨rfl, ?yq34⟩) (by assumption) ?_
    case yq34 => (intro w hSw; (try dsimp only at hSw); go_simp; first | done | with_reducible rfl)
    simp only [List.getElem_toArray, List.getElem_cons_succ, List.getElem_cons_zero, Act.put, List.setIfInBounds_toArray, List.set_cons_zero, List.set_cons_succ]
    refine wpAnyH_take (i := 35) (v := ?vq35) rfl (by kernel_rfl) (by kernel_rfl) (by kernel_rfl) (fun _ _ _ h => h) (Or.inl ⟨rfl, ?yq35⟩) (by assumption) ?_
    case yq35 => (intro w hSw; (try dsimp only at hSw); go_simp; first | done | with_reducible rfl)
    simp only [List.getElem_toArray, List.getElem_cons_succ, List.getElem_cons_zero, Act.put, List.setIfInBounds_toArray, List.set_cons_zero, List.set_cons_succ]
    refine wpAnyH_take (i := 36) (v := ?vq36) rfl (by kernel_rfl) (by kernel_rfl) (by kernel_rfl) (fun _ _ _ h => h) (Or.inl ⟨rfl, ?yq36⟩) (by assumption) ?_
    case yq36 => (intro w hSw; (try dsimp only at hSw); go_simp; first | done | with_reducible rfl)
    simp only [List.getElem_toArray, List.getElem_cons_succ, List.getElem_cons_zero, Act.put, List.setIfInBounds_toArray, List.set_cons_zero, List.set_cons_succ]
    refine wpAnyH_take (i := 37) (v := ?vq37) rfl (by kernel_rfl) (by kernel_rfl) (by kernel_rfl) (fun _ _ _ h => h) (Or.inl ⟨rfl, ?yq37⟩) (by assumption) ?_
    case yq37 => (intro w hSw; (try dsimp only at hSw); go_simp; first | done | with_reducible rfl)
    simp only [List.getElem_toArray, List.getElem_cons_succ, List.getElem_cons_zero, Act.put, List.setIfInBounds_toArray, List.set_cons_zero, List.set_cons_succ]
    refine wpAnyH_take (i := 38) (v := ?vq38) rfl (by kernel_rfl) (by kernel_rfl) (by kernel_rfl) (fun _ _ _ h => h) (Or.inl ⟨rfl, ?yq38⟩) (by assumption) ?_
    case yq38 => (intro w hSw; (try dsimp only at hSw); go_simp; first | done | with_reducible rfl)
    simp only [List.getElem_toArray, List.getElem_cons_succ, List.getElem_cons_zero, Act.put, List.setIfInBounds_toArray, List.set_cons_zero, List.set_cons_succ]
    refine wpAnyH_take (i := 39) (v := ?vq39) rfl (by kernel_rfl) (by kernel_rfl) (by kernel_rfl) (fun _ _ _ h => h) (Or.inl ⟨rfl, ?yq39⟩) (by assumption) ?_
    case yq39 => (intro w hSw; (try dsimp only at hSw); go_simp; first | done | with_reducible rfl)
    simp only [List.getElem_toArray, List.getElem_cons_succ, List.getElem_cons_zero, Act.put, List.setIfInBounds_toArray, List.set_cons_zero, List.set_cons_succ]
    refine wpAnyH_take (i := 40) (v := ?vq40) rfl (by kernel_rfl) (by kernel_rfl) (by kernel_rfl) (fun _ _ _ h => h) (Or.inl ⟨rfl, ?yq40⟩) (by assumption) ?_
    case yq40 => (intro w hSw; (try dsimp only at hSw); go_simp; first | done | with_reducible rfl)
    simp only [List.getElem_toArray, List.getElem_cons_succ, List.getElem_cons_zero, Act.put, List.setIfInBounds_toArray, List.set_cons_zero, List.set_cons_succ]
    refine wpAnyH_take (i := 41) (v := ?vq41) rfl (by kernel_rfl) (by kernel_rfl) (by kernel_rfl) (fun _ _ _ h => h) (Or.inl ⟨rfl, ?yq41⟩) (by assumption) ?_
    case yq41 => (intro w hSw; (try dsimp only at hSw); go_simp; first | done | with_reducible rfl)
    simp only [List.getElem_toArray, List.getElem_cons_succ, List.getElem_cons_zero, Act.put, List.setIfInBounds_toArray, List.set_cons_zero, List.set_cons_succ]
    refine wpAnyH_take (i := 42) (v := ?vq42) rfl (by kernel_rfl) (by kernel_rfl) (by kernel_rfl) (fun _ _ _ h => h) (Or.inl ⟨rfl, ?yq42⟩) (by assumption) ?_
    case yq42 => (intro w hSw; (try dsimp only at hSw); go_simp; first | done | with_reducible rfl)
    simp only [List.getElem_toArray, List.getElem_cons_succ, List.getElem_cons_zero, Act.put, List.setIfInBounds_toArray, List.set_cons_zero, List.set_cons_succ]
    refine wpAnyH_take (i := 43) (v := ?vq43) rfl (by kernel_rfl) (by kernel_rfl) (by kernel_rfl) (fun _ _ _ h => h) (Or.inl ⟨rfl, ?yq43⟩) (by assumption) ?_
    case yq43 => (intro w hSw; (try dsimp only at hSw); go_simp; first | done | with_reducible rfl)
    simp only [List.getElem_toArray, List.getElem_cons_succ, List.getElem_cons_zero, Act.put, List.setIfInBounds_toArray, List.set_cons_zero, List.set_cons_succ]
    refine wpAnyH_take (i := 44) (v := ?vq44) rfl (by kernel_rfl) (by kernel_rfl) (by kernel_rfl) (fun _ _ _ h => h) (Or.inl ⟨rfl, ?yq44⟩) (by assumption) ?_
    case yq44 => (intro w hSw; (try dsimp only at hSw); go_simp; first | done | with_reducible rfl)
    simp only [List.getElem_toArray, List.getElem_cons_succ, List.getElem_cons_zero, Act.put, List.setIfInBounds_toArray, List.set_cons_zero, List.set_cons_succ]
    refine wpAnyH_take (i := 45) (v := ?vq45) rfl (by kernel_rfl) (by kernel_rfl) (by kernel_rfl) (fun _ _ _ h => h) (Or.inl ⟨rfl, ?yq45⟩) (by assumption) ?_
    case yq45 => (intro w hSw; (try dsimp only at hSw); go_simp; first | done | with_reducible rfl)
    simp only [List.getElem_toArray, List.getElem_cons_succ, List.getElem_cons_zero, Act.put, List.setIfInBounds_toArray, List.set_cons_zero, List.set_cons_succ]
    refine wpAnyH_take (i := 46) (v := ?vq46) rfl (by kernel_rfl) (by kernel_rfl) (by kernel_rfl) (fun _ _ _ h => h) (Or.inl ⟨rfl, ?yq46⟩) (by assumption) ?_
    case yq46 => (intro w hSw; (try dsimp only at hSw); go_simp; first | done | with_reducible rfl)
    simp only [List.getElem_toArray, List.getElem_cons_succ, List.getElem_cons_zero, Act.put, List.setIfInBounds_toArray, List.set_cons_zero, List.set_cons_succ]
    refine wpAnyH_take (i := 47) (v := ?vq47) rfl (by kernel_rfl) (by kernel_rfl) (by kernel_rfl) (fun _ _ _ h => h) (Or.inl ⟨rfl, ?yq47⟩) (by assumption) ?_
    case yq47 => (intro w hSw; (try dsimp only at hSw); go_simp; first | done | with_reducible rfl)
    simp only [List.getElem_toArray, List.getElem_cons_succ, List.getElem_cons_zero, Act.put, List.setIfInBounds_toArray, List.set_cons_zero, List.set_cons_succ]
    refine wpAnyH_take (i := 49) (v := ?vq49) rfl (by kernel_rfl) (by kernel_rfl) (by kernel_rfl) (fun _ _ _ h => h) (Or.inl ⟨rfl, ?yq49⟩) (by assumption) ?_
    case yq49 => (intro w hSw; (try dsimp only at hSw); go_simp; first | done | with_reducible rfl)
    simp only [List.getElem_toArray, List.getElem_cons_succ, List.getElem_cons_zero, Act.put, List.setIfInBounds_toArray, List.set_cons_zero, List.set_cons_succ]
    refine wpAnyH_ready (rs := [48]) (by kernel_rfl) (by simp) ?_
    refine AllReadyH.cons rfl (fun K hK => ?_) AllReadyH.nil
    go_simp
    refine (htxi.out _ hHeld.1).mono ?_
    rintro e w1 ⟨rfl, hb1⟩
    go_wp2_with fail
    refine hK.out _ _ ?_ (fun hHeld => ?_)
    · exact keptC (by assumption) hb1
    clear hK K hb1
    try simp only [List.getElem_toArray, List.getElem_cons_succ, List.getElem_cons_zero, Act.put, List.setIfInBounds_toArray, List.set_cons_zero, List.set_cons_succ]
    refine wpAnyH_ready (rs := [50]) (by kernel_rfl) (by simp) ?_
    refine AllReadyH.cons rfl (fun K hK => ?_) AllReadyH.nil
    go_simp
    refine (htxs.out _ hHeld.1).mono ?_
    rintro e w1 ⟨rfl, hb1⟩
    go_wp2_with fail
    refine hK.out _ _ ?_ (fun hHeld => ?_)
    · exact keptC (by assumption) hb1
    clear hK K hb1
    try simp only [List.getElem_toArray, List.getElem_cons_succ, List.getElem_cons_zero, Act.put, List.setIfInBounds_toArray, List.set_cons_zero, List.set_cons_succ]
    refine wpAnyH_take (i := 51) (v := ?vq51) rfl (by kernel_rfl) (by kernel_rfl) (by kernel_rfl) (fun _ _ _ h => h) (Or.inl ⟨rfl, ?yq51⟩) (by assumption) ?_
    case yq51 => (intro w hSw; (try dsimp only at hSw); go_simp; first | done | with_reducible rfl)
    simp only [List.getElem_toArray, List.getElem_cons_succ, List.getElem_cons_zero, Act.put, List.setIfInBounds_toArray, List.set_cons_zero, List.set_cons_succ]
    refine wpAnyH_take (i := 52) (v := ?vq52) rfl (by kernel_rfl) (by kernel_rfl) (by kernel_rfl) (fun _ _ _ h => h) (Or.inl ⟨rfl, ?yq52⟩) (by assumption) ?_
    case yq52 => (intro w hSw; (try dsimp only at hSw); go_simp; first | done | with_reducible rfl)
    simp only [List.getElem_toArray, List.getElem_cons_succ, List.getElem_cons_zero, Act.put, List.setIfInBounds_toArray, List.set_cons_zero, List.set_cons_succ]
    refine wpAnyH_take (i := 53) (v := ?vq53) rfl (by kernel_rfl) (by kernel_rfl) (by kernel_rfl) (fun _ _ _ h => h) (Or.inl ⟨rfl, ?yq53⟩) (by assumption) ?_
    case yq53 => (intro w hSw; (try dsimp only at hSw); go_simp; first | done | with_reducible rfl)
    simp only [List.getElem_toArray, List.getElem_cons_succ, List.getElem_cons_zero, Act.put, List.setIfInBounds_toArray, List.set_cons_zero, List.set_cons_succ]
    refine wpAnyH_take (i := 54) (v := ?vq54) rfl (by kernel_rfl) (by kernel_rfl) (by kernel_rfl) (fun _ _ _ h => h) (Or.inl ⟨rfl, ?yq54⟩) (by assumption) ?_
    case yq54 => (intro w hSw; (try dsimp only at hSw); go_simp; first | done | with_reducible rfl)
    simp only [List.getElem_toArray, List.getElem_cons_succ, List.getElem_cons_zero, Act.put, List.setIfInBounds_toArray, List.set_cons_zero, List.set_cons_succ]
    refine wpAnyH_take (i := 56) (v := ?vq56) rfl (by kernel_rfl) (by kernel_rfl) (by kernel_rfl) (fun _ _ _ h => h) (Or.inl ⟨rfl, ?yq56⟩) (by assumption) ?_
    case yq56 => (intro w hSw; (try dsimp only at hSw); go_simp; first | done | with_reducible rfl)
    simp only [List.getElem_toArray, List.getElem_cons_succ, List.getElem_cons_zero, Act.put, List.setIfInBounds_toArray, List.set_cons_zero, List.set_cons_succ]
    refine wpAnyH_ready (rs := [55]) (by kernel_rfl) (by simp) ?_
    refine AllReadyH.cons rfl (fun K hK => ?_) AllReadyH.nil
    go_simp
    refine (hvai.out _ hHeld.1).mono ?_
    rintro e w1 ⟨rfl, hb1⟩
    go_wp2_with fail
    refine hK.out _ _ ?_ (fun hHeld => ?_)
    · exact keptC (by assumption) hb1
    clear hK K hb1
    try simp only [List.getElem_toArray, List.getElem_cons_succ, List.getElem_cons_zero, Act.put, List.setIfInBounds_toArray, List.set_cons_zero, List.set_cons_succ]
    refine wpAnyH_ready (rs := [57]) (by kernel_rfl) (by simp) ?_
    refine AllReadyH.cons rfl (fun K hK => ?_) AllReadyH.nil
    go_simp
    refine (hvas.out _ hHeld.1).mono ?_
    rintro e w1 ⟨rfl, hb1⟩
    go_wp2_with fail
    refine hK.out _ _ ?_ (fun hHeld => ?_)
    · exact keptC (by assumption) hb1
    clear hK K hb1
    try simp only [List.getElem_toArray, List.getElem_cons_succ, List.getElem_cons_zero, Act.put, List.setIfInBounds_toArray, List.set_cons_zero, List.set_cons_succ]
    refine wpAnyH_take (i := 58) (v := ?vq58) rfl (by kernel_rfl) (by kernel_rfl) (by kernel_rfl) (fun _ _ _ h => h) (Or.inl ⟨rfl, ?yq58⟩) (by assumption) ?_
    case yq58 => (intro w hSw; (try dsimp only at hSw); go_simp; first | done | with_reducible rfl)
    simp only [List.getElem_toArray, List.getElem_cons_succ, List.getElem_cons_zero, Act.put, List.setIfInBounds_toArray, List.set_cons_zero, List.set_cons_succ]
    refine wpAnyH_take (i := 59) (v := ?vq59) rfl (by kernel_rfl) (by kernel_rfl) (by kernel_rfl) (fun _ _ _ h => h) (Or.inl ⟨rfl, ?yq59⟩) (by assumption) ?_
    case yq59 => (intro w hSw; (try dsimp only at hSw); go_simp; first | done | with_reducible rfl)
    simp only [List.getElem_toArray, List.getElem_cons_succ, List.getElem_cons_zero, Act.put, List.setIfInBounds_toArray, List.set_cons_zero, List.set_cons_succ]
    refine wpAnyH_take (i := 60) (v := ?vq60) rfl (by kernel_rfl) (by kernel_rfl) (by kernel_rfl) (fun _ _ _ h => h) (Or.inl ⟨rfl, ?yq60⟩) (by assumption) ?_
    case yq60 => (intro w hSw; (try dsimp only at hSw); go_simp; first | done | with_reducible rfl)
    simp only [List.getElem_toArray, List.getElem_cons_succ, List.getElem_cons_zero, Act.put, List.setIfInBounds_toArray, List.set_cons_zero, List.set_cons_succ]
    refine wpAnyH_take (i := 61) (v := ?vq61) rfl (by kernel_rfl) (by kernel_rfl) (by kernel_rfl) (fun _ _ _ h => h) (Or.inl ⟨rfl, ?yq61⟩) (by assumption) ?_
    case yq61 => (intro w hSw; (try dsimp only at hSw); go_simp; first | done | with_reducible rfl)
    simp only [List.getElem_toArray, List.getElem_cons_succ, List.getElem_cons_zero, Act.put, List.setIfInBounds_toArray, List.set_cons_zero, List.set_cons_succ]
    refine wpAnyH_take (i := 63) (v := ?vq63) rfl (by kernel_rfl) (by kernel_rfl) (by kernel_rfl) (fun _ _ _ h => h) (Or.inl ⟨rfl, ?yq63⟩) (by assumption) ?_
    case yq63 => (intro w hSw; (try dsimp only at hSw); go_simp; first | done | with_reducible rfl)
    simp only [List.getElem_toArray, List.getElem_cons_succ, List.getElem_cons_zero, Act.put, List.setIfInBounds_toArray, List.set_cons_zero, List.set_cons_succ]
    refine wpAnyH_ready (rs := [62]) (by kernel_rfl) (by simp) ?_
    refine AllReadyH.cons rfl (fun K hK => ?_) AllReadyH.nil
    go_simp
    refine (hvci.out _).mono ?_
    rintro e w1 ⟨rfl, hb1⟩
    go_wp2_with fail
    refine hK.out _ _ ?_ (fun hHeld => ?_)
    · exact keptC (by assumption) hb1
    clear hK K hb1
    try simp only [List.getElem_toArray, List.getElem_cons_succ, List.getElem_cons_zero, Act.put, List.setIfInBounds_toArray, List.set_cons_zero, List.set_cons_succ]
    refine wpAnyH_ready (rs := [64]) (by kernel_rfl) (by simp) ?_
    refine AllReadyH.cons rfl (fun K hK => ?_) AllReadyH.nil
    go_simp
    refine (hvcs.out _).mono ?_
    rintro e w1 ⟨rfl, hb1⟩
    go_wp2_with fail
    refine hK.out _ _ ?_ (fun hHeld => ?_)
    · exact keptC (by assumption) hb1
    clear hK K hb1
    try simp only [List.getElem_toArray, List.getElem_cons_succ, List.getElem_cons_zero, Act.put, List.setIfInBounds_toArray, List.set_cons_zero, List.set_cons_succ]
    refine wpAnyH_take (i := 65) (v := ?vq65) rfl (by kernel_rfl) (by kernel_rfl) (by kernel_rfl) (fun _ _ _ h => h) (Or.inl ⟨rfl, ?yq65⟩) (by assumption) ?_
    case yq65 => (intro w hSw; (try dsimp only at hSw); go_simp; first | done | with_reducible rfl)
    simp only [List.getElem_toArray, List.getElem_cons_succ, List.getElem_cons_zero, Act.put, List.setIfInBounds_toArray, List.set_cons_zero, List.set_cons_succ]
    refine wpAnyH_take (i := 66) (v := ?vq66) rfl (by kernel_rfl) (by kernel_rfl) (by kernel_rfl) (fun _ _ _ h => h) (Or.inl ⟨rfl, ?yq66⟩) (by assumption) ?_
    case yq66 => (intro w hSw; (try dsimp only at hSw); go_simp; first | done | with_reducible rfl)
    simp only [List.getElem_toArray, List.getElem_cons_succ, List.getElem_cons_zero, Act.put, List.setIfInBounds_toArray, List.set_cons_zero, List.set_cons_succ]
    refine wpAnyH_done (by kernel_rfl) ?_ _
    obtain ⟨hbq, k0, k1, k2⟩ := hHeld
    rename World => wq
    go_wp2
    go_loopw [25] (fun kv wr => ∃ k : Nat, k ≤ na ∧ kv = .int .i64 (k : Int) ∧ Below w12.heap.size w12 wr) (fun kv _ => na - (intOf kv).toNat)
    case atStart => exact ⟨0, by omega, rfl, hbq⟩
    case round =>
      rename World => wr
      obtain ⟨k, hk, rfl, hbw⟩ := hrel
      by_cases hlt : k < na
      · obtain ⟨a1, o1, x, rfl, ha1, hx, x0, x1⟩ := act_at (ha.below hbw) hlt
        obtain ⟨a2, o2, y, rfl, ha2, hy, y0, y1⟩ := act_at (hbR.below hbw) hlt
        obtain rfl : x = y := Option.some.inj (hx.out.symm.trans hy.out)
        have hk0 : (0 : Int) ≤ (k : Int) := Int.natCast_nonneg _
        have hk1 : (k : Int) < (na : Int) := by omega
        have gk : decide ((k : Int) < (na : Int)) = true := decide_eq_true hk1
        have hneq := fun W => neq_act x W
        go_wp2_with fail
        go_quiet (fail)
        go_wp2
        go_roundw
        case rel => exact ⟨k + 1, by omega, by go_num, below_drewN hbw _⟩
        case measure => simp [intOf]; omega
      · obtain rfl : k = na := by omega
        have gk : decide ((k : Int) < (k : Int)) = false := decide_eq_false (by omega)
        have hdz := hd12.step hbw
        have hCz := hC12.below hbw
        obtain ⟨m0, m1, m2⟩ := hCz.cells
        have haz := ha.below hbw
        by_cases hbc : bc = 0
        · have gb : (bc == 0) = true := beq_iff_eq.2 hbc
          have hst := hstop.out hbc
          clear hbc
          cases ht6 : (tc == 6) with
          | true =>
            cases hl0 : (lc == 0) with
            | true =>
              by_cases hR2 : R2 = 0
              · have gr : (R2 != 0) = false := by rw [hR2]; rfl
                obtain ⟨t1, t2, t3, t4, t5, t6, t7⟩ := hres.out hR2
                clear hR2
                have hcr := carOk_iff.1 t4
                obtain ⟨⟨v1, v2⟩, ⟨v3, v4⟩, _⟩ := hcr
                have hty := typed_impl c Aa k ca R1 wr hcg haz (by omega) t5
                rw [t1, t2, hlna] at hty
                have n1 : IntKind.i64.wrap (2 * (k : Int)) = 2 * (k : Int) := IntWalk.i64_in _ (by omega)
                have n2 : IntKind.i64.wrap (c.left + 2 * (k : Int)) = c.left + 2 * (k : Int) := IntWalk.i64_in _ (by omega)
                have hline := fun A n cc W hW hn => lineOf_impl c A n cc (typed c R1).1 W hcg hW hn t6
                rw [t7] at hline
                have htrm := fun W => trim_any s W (by omega)
                clear t1 t2 t4 t5 t6 t7
                replace hline := Lib.hid hline
                replace htrm := Lib.hid htrm
                replace hty := Lib.hid hty
                go_wp2_with fail
                refine hty.out.mono ?_
                rintro e wt ⟨At, nt, ct, rfl, hnt, hot, hbt⟩
                have hCt := hCz.below hbt
                have hdt := hdz.step hbt
                clear m0 m1 m2
                obtain ⟨m0, m1, m2⟩ := hCt.cells
                go_wp2_with fail
                refine (hline.out At nt ct wt hot.srow hnt).mono ?_
                rintro e wu ⟨rfl, hbu⟩
                have hdu := hdt.step hbu
                go_wp2_with fail
                refine (htrm.out _).mono ?_
                rintro e wv ⟨rfl, rfl⟩
                go_wp2
                go_ret
                exact ⟨ret_bo (by simp), hdu⟩
              · have gr : (R2 != 0) = true := bne_iff_ne.2 hR2
                clear hR2
                go_wp2
                go_ret
                exact ⟨rfl, hdz⟩
            | false => rw [ht6, hl0] at hst; cases hst
          | false =>
            cases hl0 : (lc == 0) with
            | true => rw [ht6, hl0] at hst; cases hst
            | false =>
              by_cases hR2 : R2 = 0
              · have gr : (R2 != 0) = false := by rw [hR2]; rfl
                obtain ⟨t1, t2, t3, t4, t5, t6, t7⟩ := hres.out hR2
                clear hR2
                have hcr := carOk_iff.1 t4
                obtain ⟨⟨v1, v2⟩, ⟨v3, v4⟩, _⟩ := hcr
                have hty := typed_impl c Aa k ca R1 wr hcg haz (by omega) t5
                rw [t1, t2, hlna] at hty
                have n1 : IntKind.i64.wrap (2 * (k : Int)) = 2 * (k : Int) := IntWalk.i64_in _ (by omega)
                have n2 : IntKind.i64.wrap (c.left + 2 * (k : Int)) = c.left + 2 * (k : Int) := IntWalk.i64_in _ (by omega)
                have hline := fun A n cc W hW hn => lineOf_impl c A n cc (typed c R1).1 W hcg hW hn t6
                rw [t7] at hline
                have htrm := fun W => trim_any s W (by omega)
                clear t1 t2 t4 t5 t6 t7
                replace hline := Lib.hid hline
                replace htrm := Lib.hid htrm
                replace hty := Lib.hid hty
                go_wp2_with fail
                refine hty.out.mono ?_
                rintro e wt ⟨At, nt, ct, rfl, hnt, hot, hbt⟩
                have hCt := hCz.below hbt
                have hdt := hdz.step hbt
                clear m0 m1 m2
                obtain ⟨m0, m1, m2⟩ := hCt.cells
                go_wp2_with fail
                refine (hline.out At nt ct wt hot.srow hnt).mono ?_
                rintro e wu ⟨rfl, hbu⟩
                have hdu := hdt.step hbu
                go_wp2_with fail
                refine (htrm.out _).mono ?_
                rintro e wv ⟨rfl, rfl⟩
                go_wp2
                go_ret
                exact ⟨ret_bo (by simp), hdu⟩
              · have gr : (R2 != 0) = true := bne_iff_ne.2 hR2
                clear hR2
                go_wp2
                go_ret
                exact ⟨rfl, hdz⟩
        · have gb : (bc == 0) = false := beq_eq_false_iff_ne.2 hbc
          clear hbc
          by_cases hR2 : R2 = 0
          · have gr : (R2 != 0) = false := by rw [hR2]; rfl
            obtain ⟨t1, t2, t3, t4, t5, t6, t7⟩ := hres.out hR2
            clear hR2
            have hcr := carOk_iff.1 t4
            obtain ⟨⟨v1, v2⟩, ⟨v3, v4⟩, _⟩ := hcr
            have hty := typed_impl c Aa k ca R1 wr hcg haz (by omega) t5
            rw [t1, t2, hlna] at hty
            have n1 : IntKind.i64.wrap (2 * (k : Int)) = 2 * (k : Int) := IntWalk.i64_in _ (by omega)
            have n2 : IntKind.i64.wrap (c.left + 2 * (k : Int)) = c.left + 2 * (k : Int) := IntWalk.i64_in _ (by omega)
            have hline := fun A n cc W hW hn => lineOf_impl c A n cc (typed c R1).1 W hcg hW hn t6
            rw [t7] at hline
            have htrm := fun W => trim_any s W (by omega)
            clear t1 t2 t4 t5 t6 t7
            replace hline := Lib.hid hline
            replace htrm := Lib.hid htrm
            replace hty := Lib.hid hty
            go_wp2_with fail
            refine hty.out.mono ?_
            rintro e wt ⟨At, nt, ct, rfl, hnt, hot, hbt⟩
            have hCt := hCz.below hbt
            have hdt := hdz.step hbt
            clear m0 m1 m2
            obtain ⟨m0, m1, m2⟩ := hCt.cells
            go_wp2_with fail
            refine (hline.out At nt ct wt hot.srow hnt).mono ?_
            rintro e wu ⟨rfl, hbu⟩
            have hdu := hdt.step hbu
            go_wp2_with fail
            refine (htrm.out _).mono ?_
            rintro e wv ⟨rfl, rfl⟩
            go_wp2
            go_ret
            exact ⟨ret_bo (by simp), hdu⟩
          · have gr : (R2 != 0) = true := bne_iff_ne.2 hR2
            clear hR2
            go_wp2
            go_ret
            exact ⟨rfl, hdz⟩
end Go.Proofs.YtiopeheockajaaaDoor
