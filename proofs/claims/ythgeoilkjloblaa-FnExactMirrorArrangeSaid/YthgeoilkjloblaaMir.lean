/- MirrorArrange: the model's function and the program's. -/
import Derived.Test.YthgeoilkjloblaaSwp2
import Derived.Deep.AppendLies
namespace Go.Proofs.Ythgeoilkjloblaa
open Go.RowKit
set_option linter.unusedVariables false
set_option linter.unusedSimpArgs false

def mirL (b : BasketD) (ps : List Int) : List Int := ps.map fun p => b.bars - 1 - p
def mirrorArrange (b : BasketD) (ps : List Int) : List Int × Int := if plCode b ps = 0 then (mirL b ps, 0) else ([], plCode b ps)
theorem mir_take {b : BasketD} {ps : List Int} {k : Nat} {x : Int} (hx : ps[k]? = some x) : (mirL b (ps.take (k + 1))).flatMap intC = (mirL b (ps.take k)).flatMap intC ++ [.int .i64 (b.bars - 1 - x)] := by
  obtain ⟨h1, rfl⟩ := List.getElem?_eq_some_iff.1 hx
  rw [List.take_succ_eq_append_getElem h1, mirL, List.map_append, List.flatMap_append]
  rfl
theorem mir_len {b : BasketD} {ps : List Int} {k : Nat} (hk : k ≤ ps.length) : (mirL b (ps.take k)).length = k := by simp [mirL]; omega

set_option maxRecDepth 100000 in
set_option maxHeartbeats 1600000 in
theorem mir_spec (b : BasketD) (A : Option Addr) (n c : Nat) (ps : List Int) (w : World) (hb : b.good) (h : Ints w A n ps) (hn : n ≤ 1048576) (hx : ∀ x ∈ ps, intGood x) :
    Calls Try.prog 38 #[.agg #[.int .i64 b.bars, .int .i64 b.rise, .int .i64 b.fall, .int .i64 b.clear, .int .i64 b.near], .slice A n n] w (SwOut (mirrorArrange b ps) w) := by
  generalize hr : mirrorArrange b ps = r
  replace hr := Lib.hid hr.symm
  have hnew := Lib.hid (box_new w b 35)
  have hb0 := Lib.hid (below_a1 w (.cells #[.int .i64 b.bars, .int .i64 b.rise, .int .i64 b.fall, .int .i64 b.clear, .int .i64 b.near] 35))
  have hl := Lib.hid h.1
  have hS := h.below hb0.out
  clear hx hb
  cases h1 : basketOk b with
  | false =>
    have hres : Hid (r = ([], 1)) := Lib.hid (by rw [hr.out]; simp [mirrorArrange, plCode_1 h1])
    have hc1 := Lib.hid (fun W => ok_spec b h1 W)
    clear h1 hr
    go_enter Try.func38, Try.ntmps38
    go_wp2_with fail
    refine (hc1.out _).mono ?_
    rintro e w1 ⟨rfl, hb1⟩
    go_wp2
    go_ret2
    exact SwOut.bad hres.out (hb0.out.step hb1)
  | true =>
    have hc1 := Lib.hid (fun W => ok_spec b h1 W)
    cases h2 : placesOk b ps with
    | false =>
      have hres : Hid (r = ([], 2)) := Lib.hid (by rw [hr.out]; simp [mirrorArrange, plCode_2 h1 h2])
      have hc2 := Lib.hid (fun W (hW : Ints W A n ps) => pl_spec b A n n ps h2 W h1 hW hn (Nat.le_refl _))
      clear h1 h2 hr
      go_enter Try.func38, Try.ntmps38
      go_wp2_with fail
      refine (hc1.out _).mono ?_
      rintro e w1 ⟨rfl, hb1⟩
      obtain ⟨d0, d1, d2, d3, d4⟩ := hnew.out.step hb1
      go_wp2_with fail
      refine (hc2.out _ (hS.below hb1)).mono ?_
      rintro e w2 ⟨rfl, hb2⟩
      go_wp2
      go_ret2
      exact SwOut.bad hres.out ((hb0.out.step hb1).step hb2)
    | true =>
      have hc2 := Lib.hid (fun W (hW : Ints W A n ps) => pl_spec b A n n ps h2 W h1 hW hn (Nat.le_refl _))
      obtain ⟨n1, n7⟩ := placesOk_len h2
      rw [hl.out] at n1 n7
      have hres : Hid (r = (mirL b ps, 0)) := Lib.hid (by rw [hr.out, mirrorArrange, if_pos (plCode_0 h1 h2)])
      obtain ⟨⟨q0, q1⟩, _⟩ := basketOk_iff.1 h1
      have hbars := Lib.hid (placesOk_bars h2)
      obtain ⟨i0, hi, hz0, hz1, hz2⟩ := info_parts Try.infoI64
      clear h1 h2 hr
      go_enter Try.func38, Try.ntmps38
      go_wp2_with fail
      refine (hc1.out _).mono ?_
      rintro e w1 ⟨rfl, hb1⟩
      obtain ⟨d0, d1, d2, d3, d4⟩ := hnew.out.step hb1
      go_wp2_with fail
      refine (hc2.out _ (hS.below hb1)).mono ?_
      rintro e w2 ⟨rfl, hb2⟩
      have hbel := Lib.hid ((hb0.out.step hb1).step hb2)
      have hbox := Lib.hid ((hnew.out.step hb1).step hb2)
      have hS2 := (hS.below hb1).below hb2
      clear d0 d1 d2 d3 d4 hS hb1 hb2 hnew hc1 hc2 h
      go_wp2
      have hown : (w2.alloc (.cells #[] 2)).ownsRow w2.heap.size 2 1 (.slice (some ⟨w2.heap.size, 0, none⟩) 0 0) 0 [] := by
        have := World.ownsRow_lit (w := w2) (e := 2) (base := w2.heap.size) (size := 1) #[] 0 (Nat.le_refl _) (by simp [maxLen]) (by simp)
        simpa using this
      have hbs := Lib.hid (below_a1 w2 (.cells #[] 2))
      replace hown := Lib.hid hown
      generalize hws : w2.alloc (.cells #[] 2) = ws at *
      clear hws
      generalize hN : w.heap.size = N at *
      replace hN := Lib.hid hN
      go_loopw [6, 7] (fun v i wr => ∃ k : Nat, k ≤ n ∧ i = .int .i64 k ∧ wr.ownsRow w2.heap.size 2 1 v k ((mirL b (ps.take k)).flatMap intC) ∧ Below w2.heap.size w2 wr) (fun _ i _ => n - (intOf i).toNat)
      case atStart => exact ⟨0, by omega, rfl, by simpa [mirL] using hown.out, hbs.out⟩
      case round =>
        obtain ⟨k, hk, rfl, hrow, hbo⟩ := hrel
        by_cases hlt : k < n
        · obtain ⟨bb, off, x, rfl, hbb, hx, c0⟩ := int_at (hS2.below hbo) hlt
          obtain ⟨x0, x1⟩ := hasBar_iff.1 (hbars.out _ _ hx.out)
          have hk0 : (0 : Int) ≤ (k : Int) := Int.natCast_nonneg _
          have hk1 : (k : Int) < (n : Int) := by omega
          have hbb2 := ((hS2.2 (by omega)))
          have hlt2 : bb < w2.heap.size := by obtain ⟨_, _, e, h9, _⟩ := hS2.2 (by omega); cases e; exact h9
          have hNlt := hbox.out.lt
          clear hbb2
          obtain ⟨d0, _⟩ := hbox.out.step hbo
          have hnx := Lib.hid (mir_take (b := b) hx.out)
          obtain ⟨A', c', rfl, hc', hO'⟩ := owns_i (mir_len (by rw [hl.out]; omega)) hrow
          clear hO' hc'
          have s1 : IntKind.i64.wrap (b.bars - 1) = b.bars - 1 := IntWalk.i64_in _ (by omega)
          have s2 : IntKind.i64.wrap (b.bars - 1 - x) = b.bars - 1 - x := IntWalk.i64_in _ (by omega)
          go_wp2_with fail
          refine wp_region_held_drew (S := fun w' => w'.cell? ⟨N, 0, none⟩ = some (.int .i64 b.bars) ∧ w'.cell? ⟨bb, off + k, none⟩ = some (.int .i64 x)) (by kernel_rfl) ?_ (fun hHeld => ?_)
          · exact ⟨d0, c0⟩
          refine wpAnyH_take (i := 0) (v := ?va0) rfl (by kernel_rfl) (by kernel_rfl) (by kernel_rfl) (fun _ _ _ h => h) (Or.inl ⟨rfl, ?ya0⟩) (by assumption) ?_
          case ya0 => (intro w hSw; (try dsimp only at hSw); go_simp; first | done | with_reducible rfl)
          simp only [List.getElem_toArray, List.getElem_cons_succ, List.getElem_cons_zero, Act.put, List.setIfInBounds_toArray, List.set_cons_zero, List.set_cons_succ]
          refine wpAnyH_take (i := 1) (v := ?va1) rfl (by kernel_rfl) (by kernel_rfl) (by kernel_rfl) (fun _ _ _ h => h) (Or.inl ⟨rfl, ?ya1⟩) (by assumption) ?_
          case ya1 => (intro w hSw; (try dsimp only at hSw); go_simp; first | done | with_reducible rfl)
          simp only [List.getElem_toArray, List.getElem_cons_succ, List.getElem_cons_zero, Act.put, List.setIfInBounds_toArray, List.set_cons_zero, List.set_cons_succ]
          refine wpAnyH_take (i := 2) (v := ?va2) rfl (by kernel_rfl) (by kernel_rfl) (by kernel_rfl) (fun _ _ _ h => h) (Or.inl ⟨rfl, ?ya2⟩) (by assumption) ?_
          case ya2 => (intro w hSw; (try dsimp only at hSw); go_simp; first | done | with_reducible rfl)
          simp only [List.getElem_toArray, List.getElem_cons_succ, List.getElem_cons_zero, Act.put, List.setIfInBounds_toArray, List.set_cons_zero, List.set_cons_succ]
          refine wpAnyH_take (i := 3) (v := ?va3) rfl (by kernel_rfl) (by kernel_rfl) (by kernel_rfl) (fun _ _ _ h => h) (Or.inl ⟨rfl, ?ya3⟩) (by assumption) ?_
          case ya3 => (intro w hSw; (try dsimp only at hSw); go_simp; first | done | with_reducible rfl)
          simp only [List.getElem_toArray, List.getElem_cons_succ, List.getElem_cons_zero, Act.put, List.setIfInBounds_toArray, List.set_cons_zero, List.set_cons_succ]
          refine wpAnyH_take (i := 4) (v := ?va4) rfl (by kernel_rfl) (by kernel_rfl) (by kernel_rfl) (fun _ _ _ h => h) (Or.inl ⟨rfl, ?ya4⟩) (by assumption) ?_
          case ya4 => (intro w hSw; (try dsimp only at hSw); go_simp; first | done | with_reducible rfl)
          simp only [List.getElem_toArray, List.getElem_cons_succ, List.getElem_cons_zero, Act.put, List.setIfInBounds_toArray, List.set_cons_zero, List.set_cons_succ]
          refine wpAnyH_take (i := 5) (v := ?va5) rfl (by kernel_rfl) (by kernel_rfl) (by kernel_rfl) (fun _ _ _ h => h) (Or.inl ⟨rfl, ?ya5⟩) (by assumption) ?_
          case ya5 => (intro w hSw; (try dsimp only at hSw); go_simp; first | done | with_reducible rfl)
          simp only [List.getElem_toArray, List.getElem_cons_succ, List.getElem_cons_zero, Act.put, List.setIfInBounds_toArray, List.set_cons_zero, List.set_cons_succ]
          refine wpAnyH_take (i := 6) (v := ?va6) rfl (by kernel_rfl) (by kernel_rfl) (by kernel_rfl) (fun _ _ _ h => h) (Or.inl ⟨rfl, ?ya6⟩) (by assumption) ?_
          case ya6 => (intro w hSw; (try dsimp only at hSw); go_simp; first | done | with_reducible rfl)
          simp only [List.getElem_toArray, List.getElem_cons_succ, List.getElem_cons_zero, Act.put, List.setIfInBounds_toArray, List.set_cons_zero, List.set_cons_succ]
          refine wpAnyH_take (i := 7) (v := ?va7) rfl (by kernel_rfl) (by kernel_rfl) (by kernel_rfl) (fun _ _ _ h => h) (Or.inl ⟨rfl, ?ya7⟩) (by assumption) ?_
          case ya7 => (intro w hSw; (try dsimp only at hSw); go_simp; first | done | with_reducible rfl)
          simp only [List.getElem_toArray, List.getElem_cons_succ, List.getElem_cons_zero, Act.put, List.setIfInBounds_toArray, List.set_cons_zero, List.set_cons_succ]
          refine wpAnyH_take (i := 8) (v := ?va8) rfl (by kernel_rfl) (by kernel_rfl) (by kernel_rfl) (fun _ _ _ h => h) (Or.inl ⟨rfl, ?ya8⟩) (by assumption) ?_
          case ya8 => (intro w hSw; (try dsimp only at hSw); go_simp; first | done | with_reducible rfl)
          simp only [List.getElem_toArray, List.getElem_cons_succ, List.getElem_cons_zero, Act.put, List.setIfInBounds_toArray, List.set_cons_zero, List.set_cons_succ]
          refine wpAnyH_ready (rs := [9]) (by kernel_rfl) (by simp) ?_
          refine AllReadyH.cons rfl (fun K hK => ?_) AllReadyH.nil
          go_simp
          refine hK.out _ _ ?_ (fun hHeld => ?_)
          · exact ⟨cell_on d0 _, cell_on c0 _⟩
          clear hK K
          try simp only [List.getElem_toArray, List.getElem_cons_succ, List.getElem_cons_zero, Act.put, List.setIfInBounds_toArray, List.set_cons_zero, List.set_cons_succ]
          refine wpAnyH_ready (rs := [10]) (by kernel_rfl) (by simp) ?_
          refine AllReadyH.cons rfl (fun K hK => ?_) AllReadyH.nil
          refine step_append_lies _ rfl (.tmp 22) (.tmp 31) 32 rfl w2.heap.size 2 i0 _ 1 8 Try.underlying32 hi hz0 hz1 hz2 rfl (by decide) (.slice A' k c') k ((mirL b (ps.take k)).flatMap intC) rfl (hrow.alloc _) ⟨wr.heap.size, 0, none⟩ 1 1 [.int .i64 (b.bars - 1 - x)] rfl rfl ?c1 ?c2 (by decide) ?c3 ?c4 ?c5 _ rfl (fun g cap w5 ho5 hg5 _ hlt5 => ?_)
          case c1 =>
            intro j u hj
            match j, hj with
            | 0, hj => cases hj; exact cell_new rfl rfl
            | j + 1, hj => simp at hj
          case c2 =>
            intro u hu
            simp only [List.mem_cons, List.not_mem_nil, or_false] at hu
            subst hu
            rfl
          case c3 => unfold maxLen; omega
          case c4 => omega
          case c5 => have := hbo.size; simp [World.drew]; omega
          have hA5 : ∀ j, (Value.slice A' k c').ownBlock = some j → w2.heap.size ≤ j := fun j hj => by
            rcases hrow.2 with ⟨h8, _⟩ | ⟨g', cap', cur, h8, hb8, _⟩
            · cases h8; simp [Value.ownBlock] at hj
            · cases h8; simp [Value.ownBlock] at hj; omega
          have hbel5 : Hid (Below w2.heap.size w2 w5) := Lib.hid (Below.grown ((hbo.alloc hbo.size _).drew) hg5 (by have := hbo.size; simp [World.drew]; omega) hA5)
          have hrow5 : Hid (w5.ownsRow w2.heap.size 2 1 (.slice (some ⟨g, 0, none⟩) (k + 1) cap) (k + 1) ((mirL b (ps.take (k + 1))).flatMap intC)) := Lib.hid (by rw [hnx.out]; exact ho5)
          have hS5 : w5.cell? ⟨N, 0, none⟩ = some (.int .i64 b.bars) ∧ w5.cell? ⟨bb, off + k, none⟩ = some (.int .i64 x) :=
            ⟨(hg5.cell_far _ (World.block_lt_of_cell? _ _ hHeld.1) (fun h => by have := hA5 _ h.symm; simp only at this; omega)).trans hHeld.1, (hg5.cell_far _ (World.block_lt_of_cell? _ _ hHeld.2) (fun h => by have := hA5 _ h.symm; simp only at this; omega)).trans hHeld.2⟩
          refine hK.out _ _ hS5 (fun hHeld5 => ?_)
          clear hK K hS5 hA5 hg5 ho5
          try simp only [List.getElem_toArray, List.getElem_cons_succ, List.getElem_cons_zero, Act.put, List.setIfInBounds_toArray, List.set_cons_zero, List.set_cons_succ]
          refine wpAnyH_take (i := 11) (v := ?va11) rfl (by kernel_rfl) (by kernel_rfl) (by kernel_rfl) (fun _ _ _ h => h) (Or.inl ⟨rfl, ?ya11⟩) (by assumption) ?_
          case ya11 => (intro w hSw; (try dsimp only at hSw); go_simp; first | done | with_reducible rfl)
          simp only [List.getElem_toArray, List.getElem_cons_succ, List.getElem_cons_zero, Act.put, List.setIfInBounds_toArray, List.set_cons_zero, List.set_cons_succ]
          refine wpAnyH_done (by kernel_rfl) ?_ _
          clear s1 s2
          go_wp2
          go_roundw
          case rel => exact ⟨k + 1, by omega, by go_num, hrow5.out, hbel5.out⟩
          case measure => simp [intOf]; omega
        · obtain rfl : k = n := by omega
          rw [List.take_of_length_le (by rw [hl.out]; omega)] at hrow
          obtain ⟨A', c', rfl, hc', hO'⟩ := owns_i (by simp [mirL, hl.out]) hrow
          have hfin := Lib.hid (show OInts wr N A' k r.1 by rw [hres.out]; exact hO'.mono (by rw [← hN.out]; exact hbel.out.size))
          have hcode : Hid (r.2 = 0) := Lib.hid (by rw [hres.out])
          clear hrow hO'
          go_wp2
          go_ret2
          obtain rfl := hN.out
          exact ⟨A', k, c', by rw [hcode.out]; rfl, by omega, hfin.out, hbel.out.step hbo⟩

set_option maxRecDepth 100000 in
set_option maxHeartbeats 1600000 in
theorem mir_impl (b : BasketD) (A : Option Addr) (n c : Nat) (ps : List Int) (w : World) (hb : b.good) (h : Ints w A n ps) (hn : n ≤ 1048576) (hx : ∀ x ∈ ps, intGood x) :
    Calls Try.prog 39 #[.agg #[.int .i64 b.bars, .int .i64 b.rise, .int .i64 b.fall, .int .i64 b.clear, .int .i64 b.near], .slice A n n] w (SwOut (mirrorArrange b ps) w) := by
  generalize hr : mirrorArrange b ps = r
  replace hr := Lib.hid hr.symm
  have hnew := Lib.hid (box_new w b 35)
  have hb0 := Lib.hid (below_a1 w (.cells #[.int .i64 b.bars, .int .i64 b.rise, .int .i64 b.fall, .int .i64 b.clear, .int .i64 b.near] 35))
  have hl := Lib.hid h.1
  have hS := h.below hb0.out
  clear hx hb
  by_cases h0 : plCode b ps = 0
  · obtain ⟨h1, h2⟩ := plCode_ok h0
    have hc1 := Lib.hid (fun W (hW : Ints W A n ps) => codeP_impl b A n n ps h0 W hW hn (Nat.le_refl _))
    obtain ⟨n1, n7⟩ := placesOk_len h2
    rw [hl.out] at n1 n7
    have hres : Hid (r = (mirL b ps, 0)) := Lib.hid (by rw [hr.out, mirrorArrange, if_pos h0])
    obtain ⟨⟨q0, q1⟩, _⟩ := basketOk_iff.1 h1
    have hbars := Lib.hid (placesOk_bars h2)
    obtain ⟨i0, hi, hz0, hz1, hz2⟩ := info_parts Try.infoI64
    have hmk := fun W => run_make_many (P := Try.prog) 32 2 i0 _ Try.underlying32 hi hz0 .i64 .i64 n (by rw [hz2]; omega) (by omega) W
    rw [hz1] at hmk
    clear h0 h1 h2 hr h
    go_enter Try.func39, Try.ntmps39
    go_wp2_with fail
    refine (hc1.out _ hS).mono ?_
    rintro e w1 ⟨rfl, hb1⟩
    have hbel := Lib.hid (hb0.out.step hb1)
    have hbox := Lib.hid (hnew.out.step hb1)
    have hS2 := hS.below hb1
    clear hS hb1 hnew hc1
    go_wp2
    have hstart : Hid (Filled 1 intC (w1.alloc (.cells (madeCells #[Value.int IntKind.i64 0] n) 2)) w1.heap.size 2 n (mirL b ps) 0) := Lib.hid (.start _ (made_row _ _ _ _))
    have hbs := Lib.hid (below_a1 w1 (.cells (madeCells #[Value.int IntKind.i64 0] n) 2))
    generalize hws : w1.alloc (.cells (madeCells #[Value.int IntKind.i64 0] n) 2) = ws at *
    clear hws hmk
    generalize hN : w.heap.size = N at *
    replace hN := Lib.hid hN
    go_loopw [21] (fun i wr => ∃ k : Nat, k ≤ n ∧ i = .int .i64 k ∧ Below w1.heap.size w1 wr ∧ Filled 1 intC wr w1.heap.size 2 n (mirL b ps) k) (fun i _ => n - (intOf i).toNat)
    case atStart => exact ⟨0, by omega, rfl, hbs.out, hstart.out⟩
    case round =>
      obtain ⟨k, hk, rfl, hbo, hF⟩ := hrel
      by_cases hlt : k < n
      · obtain ⟨bb, off, x, rfl, hbb, hx, c0⟩ := int_at (hS2.below hbo) hlt
        obtain ⟨x0, x1⟩ := hasBar_iff.1 (hbars.out _ _ hx.out)
        have hk0 : (0 : Int) ≤ (k : Int) := Int.natCast_nonneg _
        have hk1 : (k : Int) < (n : Int) := by omega
        obtain ⟨d0, _⟩ := hbox.out.step hbo
        obtain ⟨f, hrow1⟩ := hF.row
        have d5 := hrow1.cell (i := k) (by omega)
        have e5 := hrow1.frozen k
        have hmx : (mirL b ps)[k]? = some (b.bars - 1 - x) := by rw [mirL, List.getElem?_map, hx.out]; rfl
        have hstep := Lib.hid (hF.step hmx (fun _ => rfl))
        simp only [intC, putRow, Nat.mul_one] at hstep
        have hbo1 := Lib.hid (hbo.setCell (p := ⟨w1.heap.size, k, none⟩) (Nat.le_refl _) (.int .i64 (b.bars - 1 - x)))
        replace hmx := Lib.hid hmx
        have s1 : IntKind.i64.wrap (b.bars - 1) = b.bars - 1 := IntWalk.i64_in _ (by omega)
        have s2 : IntKind.i64.wrap (b.bars - 1 - x) = b.bars - 1 - x := IntWalk.i64_in _ (by omega)
        go_wp2
        clear s1 s2
        go_roundw
        case rel => exact ⟨k + 1, by omega, by go_num, hbo1.out, hstep.out⟩
        case measure => simp [intOf]; omega
      · obtain rfl : k = n := by omega
        have hO' : OInts wr w1.heap.size (some ⟨w1.heap.size, 0, none⟩) k (mirL b ps) := ORow.of_filled (show Filled 1 intC wr w1.heap.size 2 (k * 1) (mirL b ps) k by simpa using hF) (by simp [mirL, hl.out]) (Nat.le_refl _) (fun _ => rfl)
        have hfin := Lib.hid (show OInts wr N (some ⟨w1.heap.size, 0, none⟩) k r.1 by rw [hres.out]; exact hO'.mono (by rw [← hN.out]; exact hbel.out.size))
        have hcode : Hid (r.2 = 0) := Lib.hid (by rw [hres.out])
        clear hF hO'
        go_wp2
        go_ret2
        obtain rfl := hN.out
        exact ⟨_, k, _, by rw [hcode.out]; rfl, by omega, hfin.out, hbel.out.step hbo⟩
  · have hres : Hid (r = ([], plCode b ps)) := Lib.hid (by rw [hr.out, mirrorArrange, if_neg h0])
    have hc1 := Lib.hid (fun W (hW : Ints W A n ps) => codeP_impl b A n n ps rfl W hW hn (Nat.le_refl _))
    have hcs := plCode_cases b ps
    generalize plCode b ps = q at *
    have hq0 : (q == 0) = false := by simpa using h0
    clear h0 hr
    rcases hcs with rfl | rfl | rfl
    · simp at hq0
    · clear hq0
      go_enter Try.func39, Try.ntmps39
      go_wp2_with fail
      refine (hc1.out _ hS).mono ?_
      rintro e w1 ⟨rfl, hb1⟩
      go_wp2
      go_ret2
      exact SwOut.bad hres.out (hb0.out.step hb1)
    · clear hq0
      go_enter Try.func39, Try.ntmps39
      go_wp2_with fail
      refine (hc1.out _ hS).mono ?_
      rintro e w1 ⟨rfl, hb1⟩
      go_wp2
      go_ret2
      exact SwOut.bad hres.out (hb0.out.step hb1)
end Go.Proofs.Ythgeoilkjloblaa
