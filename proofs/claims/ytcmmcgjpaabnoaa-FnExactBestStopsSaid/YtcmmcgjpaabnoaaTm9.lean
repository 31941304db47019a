/- Moves of the carriage: the model's moves of a page. -/
import Derived.Test.YtcmmcgjpaabnoaaTm5
import Derived.Test.YtcmmcgjpaabnoaaTm8
namespace Go.Proofs.Ytcmmcgjpaabnoaa
open Go.RowKit Go.ChangeShapes Go.WideShapes Go.Deep
set_option linter.unusedVariables false
set_option linter.unusedSimpArgs false

theorem Try.infoIntsl : (Try.prog.info? 22).map (fun i => (i.zero, i.size, i.bytes)) = some (some (.slice none 0 0), 1, 24) := by kernel_rfl
/-- Distances that are kept, by their columns. -/
def Memo (ps : List Int) (G : Nat) (w : World) : Prop :=
  ∃ cs : Array Value, w.heap[G]? = some (.cells cs 22) ∧ cs.size = 31 ∧ ∀ i, i < 31 → cs[i]? = some (.slice none 0 0) ∨ ∃ g L, cs[i]? = some (.slice (some ⟨g, 0, none⟩) 31 31) ∧ G < g ∧ Ints w (some ⟨g, 0, none⟩) 31 L ∧ IsFar ps i (fun a => L.getD a 0)
theorem Memo.below {ps : List Int} {G : Nat} {w w' : World} (h : Memo ps G w) (hb : Below w.heap.size w w') : Memo ps G w' := by
  obtain ⟨cs, h1, h2, h3⟩ := h
  refine ⟨cs, (hb.block _ (own_lt h1)).trans h1, h2, fun i hi => ?_⟩
  rcases h3 i hi with h | ⟨g, L, a, b, c, d⟩
  · exact Or.inl h
  · exact Or.inr ⟨g, L, a, b, c.below hb, d⟩
theorem Memo.lt {ps : List Int} {G : Nat} {w : World} (h : Memo ps G w) : G < w.heap.size := by
  obtain ⟨cs, h1, _⟩ := h
  exact own_lt h1
theorem Memo.new {ps : List Int} (w : World) : Memo ps w.heap.size (w.alloc (.cells (madeCells #[.slice none 0 0] 31) 22)) := by
  refine ⟨_, heap_alloc_new _ _, size_madeCells _ _, fun i hi => Or.inl ?_⟩
  have hr := World.rowIs_made w (.slice none 0 0) 31 22
  have hc := hr.cell (i := i) hi
  have : (w.alloc (.cells (madeCells #[.slice none 0 0] 31) 22)).cell? ⟨w.heap.size, i, none⟩ = (madeCells #[.slice none 0 0] 31)[i]? := by
    unfold World.cell?
    rw [show (w.alloc (.cells (madeCells #[.slice none 0 0] 31) 22)).heap[(⟨w.heap.size, i, none⟩ : Addr).block]? = _ from heap_alloc_new _ _]
    rfl
  rw [← this]
  exact hc
theorem Memo.put {ps : List Int} {G i g : Nat} {L : List Int} {w : World} (h : Memo ps G w) (hi : i < 31) (hg : G < g) (hL : Ints w (some ⟨g, 0, none⟩) 31 L) (hF : IsFar ps i (fun a => L.getD a 0)) :
    Memo ps G (w.setCell ⟨G, i, none⟩ (.slice (some ⟨g, 0, none⟩) 31 31)) := by
  obtain ⟨cs, h1, h2, h3⟩ := h
  have hk : ∀ {g' : Nat} {L' : List Int}, G < g' → Ints w (some ⟨g', 0, none⟩) 31 L' → Ints (w.setCell ⟨G, i, none⟩ (.slice (some ⟨g, 0, none⟩) 31 31)) (some ⟨g', 0, none⟩) 31 L' := fun hg' hL' =>
    SRow.kept (B := some ⟨G, 0, none⟩) hL' grown_set (fun p q hp hq => by cases hp; cases hq; simp only; omega)
  refine ⟨cs.setIfInBounds i (.slice (some ⟨g, 0, none⟩) 31 31), heap_setCell_same w G i _ _ _ h1, by simp [h2], fun j hj => ?_⟩
  rw [Array.getElem?_setIfInBounds]
  by_cases hij : i = j
  · subst hij
    rw [if_pos rfl, if_pos (by omega)]
    exact Or.inr ⟨g, L, rfl, hg, hk hg hL, hF⟩
  · rw [if_neg hij]
    rcases h3 j hj with h | ⟨g', L', a, b, c, d⟩
    · exact Or.inl h
    · exact Or.inr ⟨g', L', a, b, hk b c, d⟩
theorem far_self (ps : List Int) (i : Nat) : farP ps i i = 0 := by
  unfold farP
  split
  · rename_i h
    exact h.choose_spec.zero
  · rfl
theorem way_self (ps : List Int) (i : Nat) : wayP ps i i = [] := by
  rw [wayP, wayL, if_pos (by rw [far_self]; omega)]
noncomputable def rowMv (ps : List Int) (s : ByteArray) : Nat := (plS ps s s.size).2.2
noncomputable def pageN (ps : List Int) (rs : List ByteArray) : Nat := (rs.map (rowMv ps)).sum
theorem pageN_take {ps : List Int} {rs : List ByteArray} {k : Nat} {x : ByteArray} (h : rs[k]? = some x) : pageN ps (rs.take (k + 1)) = pageN ps (rs.take k) + rowMv ps x := by
  rw [pageN, take8 h, List.map_append, List.sum_append, pageN]; simp
theorem cell_of_block {w : World} {G i : Nat} {cs : Array Value} {T : TypeId} {u : Value} (h : w.heap[G]? = some (.cells cs T)) (hi : cs[i]? = some u) : w.cell? ⟨G, i, none⟩ = some u := by simp [World.cell?, h, hi]
set_option maxRecDepth 100000 in
set_option maxHeartbeats 6400000 in
theorem page11 (A : Option Addr) (n c : Nat) (ps : List Int) (B : Option Addr) (m d : Nat) (rs : List ByteArray) (w : World) (h : Ints w A n ps) (hn : n ≤ 1048576) (hR : Strs w B m rs) (hm : m ≤ 12) (hs : ∀ x ∈ rs, x.size ≤ 30) :
    Calls Try.prog 53 #[.slice A n c, .slice B m d] w fun e w' => e = .returned (.int .i64 (pageN ps rs : Int)) ∧ pageN ps rs ≤ 10800 ∧ Below w.heap.size w w' := by
  obtain ⟨i0, hi, hz0, hz1, hz2⟩ := info_parts Try.infoIntsl
  have hl := Lib.hid hR.1
  have hs0 := Lib.hid hs
  have hmk := fun W => run_make_many (P := Try.prog) 86 22 i0 _ Try.underlying86 hi hz0 .i64 .i64 31 (by rw [hz2]; omega) (by omega) W
  rw [hz1, Nat.mul_one] at hmk
  simp only [show ((31 : Nat) : Int) = 31 from rfl] at hmk
  clear hs
  go_enter Try.func53, Try.ntmps53
  go_wp2
  have hM0 := Lib.hid (Memo.new (ps := ps) w)
  have hmb := Lib.hid (below_a1 w (.cells (madeCells #[.slice none 0 0] 31) 22))
  generalize w.alloc (.cells (madeCells #[.slice none 0 0] 31) 22) = w1 at *
  obtain ⟨G, hG⟩ : ∃ G, w.heap.size = G := ⟨_, rfl⟩
  have hGw := Lib.hid hG
  rw [hG] at hM0 hmb ⊢
  go_loopw [6, 7, 8, 9] (fun sm r _ _ wr => ∃ (k S : Nat), k ≤ m ∧ r = .int .i64 (k : Int) ∧ sm = .int .i64 (S : Int) ∧ S = pageN ps (rs.take k) ∧ S ≤ 900 * k ∧ Memo ps G wr ∧ Below G w wr) (fun _ r _ _ _ => m - (intOf r).toNat)
  case atStart => exact ⟨0, 0, by omega, rfl, rfl, by simp [pageN], by omega, hM0.out, hmb.out⟩
  case round =>
    rename World => wr
    obtain ⟨k, S, hk, rfl, rfl, hS, hSl, hM, hbw⟩ := hrel
    by_cases hlt : k < m
    · obtain ⟨b, off, x, rfl, hb, hx, c0⟩ := str_at (hR.below (hGw.out ▸ hbw)) hlt
      have hk0 : (0 : Int) ≤ (k : Int) := Int.natCast_nonneg _
      have hk1 : (k : Int) < (m : Int) := by omega
      have hxs := hs0.out x (List.mem_of_getElem? hx.out)
      have hnext := Lib.hid (pageN_take (ps := ps) hx.out)
      have hSh := Lib.hid hS
      have hMh := Lib.hid hM
      clear hM hS
      go_wp2
      go_loopw [6, 8, 9] (fun sm at' ii wi => ∃ (i a mv S2 : Nat), i ≤ x.size ∧ ii = .int .i64 (i : Int) ∧ at' = .int .i64 (a : Int) ∧ sm = .int .i64 (S2 : Int) ∧ S2 = S + mv ∧ mv ≤ 30 * i ∧ (plS ps x i).2.1 = a ∧ (plS ps x i).2.2 = mv ∧ Memo ps G wi ∧ Below G w wi) (fun _ _ ii _ => x.size - (intOf ii).toNat)
      case atStart => exact ⟨0, 0, 0, S, by omega, rfl, rfl, rfl, by omega, by omega, rfl, rfl, hMh.out, hbw⟩
      case round =>
        clear c0 hMh hbw
        rename World => wi
        obtain ⟨i, a, mv, S2, hi', rfl, rfl, rfl, hS2, hmvl, hpa, hpm, hM, hbi⟩ := hrel
        have hwz := hbi.size
        obtain ⟨_, _, x', hAA, _, hx', c0⟩ := str_at (hR.below (hGw.out ▸ hbi)) hlt
        cases hAA
        obtain rfl : x = x' := Option.some.inj (hx.out.symm.trans hx'.out)
        clear hx'
        by_cases hli : i < x.size
        · have hi0 : (0 : Int) ≤ (i : Int) := Int.natCast_nonneg _
          have hi1 : (i : Int) < (x.size : Int) := by omega
          have hi31 : (i : Int) < 31 := by omega
          have hi31' : i < 31 := by omega
          have hbki := bAt_eq hli
          have hai : a ≤ i := by have := plS_at ps x i; rw [hpa] at this; exact this
          have ha0 : (0 : Int) ≤ (a : Int) := Int.natCast_nonneg _
          have ha31 : (a : Int) < 31 := by omega
          have hwi : IntKind.i64.wrap (i : Int) = (i : Int) := IntWalk.i64_in _ (by omega)
          have hwi1 : IntKind.i64.wrap ((i : Int) + 1) = ((i + 1 : Nat) : Int) := by rw [IntWalk.i64_in _ (by omega)]; omega
          by_cases h32 : (x[i]'hli).toNat = 32
          · have b1 : (((x[i]'hli).toNat : Int) == 32) = true := beq_iff_eq.2 (by omega)
            have b3 : ((x[i]'hli).toNat == 32) = true := beq_iff_eq.2 h32
            have hpn : Hid ((plS ps x (i + 1)).2.1 = a ∧ (plS ps x (i + 1)).2.2 = mv) := Lib.hid (by rw [plS_space (by rw [hbki]; exact h32)]; exact ⟨hpa, hpm⟩)
            replace h32 := Lib.hid h32
            replace hbki := Lib.hid hbki
            replace hpa := Lib.hid hpa
            replace hpm := Lib.hid hpm
            replace hM := Lib.hid hM
            go_wp2
            go_roundw
            case rel => exact ⟨i + 1, a, mv, S2, by omega, by go_num, rfl, rfl, hS2, by omega, hpn.out.1, hpn.out.2, hM.out, hbi⟩
            case measure => simp [intOf]; omega
          · have b1 : (((x[i]'hli).toNat : Int) == 32) = false := beq_eq_false_iff_ne.2 (by omega)
            have b3 : ((x[i]'hli).toNat == 32) = false := beq_eq_false_iff_ne.2 h32
            have hpl := plS_letter (ps := ps) (s := x) (k := i) (by rw [hbki]; exact h32)
            rw [hpa, hpm] at hpl
            have hpn : Hid ((plS ps x (i + 1)).2.1 = i + 1 ∧ (plS ps x (i + 1)).2.2 = mv + (wayP ps i a).length) := Lib.hid (by rw [hpl]; exact ⟨rfl, rfl⟩)
            replace hpl := Lib.hid hpl
            replace h32 := Lib.hid h32
            replace hbki := Lib.hid hbki
            replace hpa := Lib.hid hpa
            replace hpm := Lib.hid hpm
            by_cases hia : i = a
            · have e1 : ((i : Int) == (a : Int)) = true := beq_iff_eq.2 (by omega)
              have e2 : ((i : Int) != (a : Int)) = false := by rw [bne, e1]; rfl
              have e3 : (i == a) = true := beq_iff_eq.2 hia
              have e4 : (i != a) = false := by rw [bne, e3]; rfl
              have hpn2 : Hid ((plS ps x (i + 1)).2.1 = i + 1 ∧ (plS ps x (i + 1)).2.2 = mv) := Lib.hid ⟨hpn.out.1, by rw [hpn.out.2, ← hia, way_self]; rfl⟩
              replace hia := Lib.hid hia
              replace hM := Lib.hid hM
              go_wp2
              go_roundw
              case rel => exact ⟨i + 1, i + 1, mv, S2, by omega, by go_num, by first | rfl | go_num, rfl, hS2, by omega, hpn2.out.1, hpn2.out.2, hM.out, hbi⟩
              case measure => simp [intOf]; omega
            · have e1 : ((i : Int) == (a : Int)) = false := beq_eq_false_iff_ne.2 (by omega)
              have e2 : ((i : Int) != (a : Int)) = true := by rw [bne, e1]; rfl
              have e3 : (i == a) = false := beq_eq_false_iff_ne.2 hia
              have e4 : (i != a) = true := by rw [bne, e3]; rfl
              replace hia := Lib.hid hia
              have hGl := hM.lt
              obtain ⟨cs, hcs, hcz, hall⟩ := hM
              have hM1 : Memo ps G wi := ⟨cs, hcs, hcz, hall⟩
              rcases hall i hi31' with hnil | ⟨g, L, hcell, hgG, hL, hF⟩
              · have cg := cell_of_block hcs hnil
                have hfar := Lib.hid (far11 A n c ps i (by omega) wi (h.below (hGw.out ▸ hbi)) hn)
                replace hM1 := Lib.hid hM1
                clear hcs hcz hall hnil
                go_wp2_with fail
                refine hfar.out.mono ?_
                rintro e w3 ⟨g, L, rfl, hg, hO, hF, hb3⟩
                have hM3 := hM1.out.below hb3
                have hGg : G < g := by omega
                have hgG : g ≠ G := by omega
                obtain ⟨cs3, hcs3, hcz3, _⟩ := hM3
                obtain ⟨u3, hu3⟩ : ∃ u, cs3[i]? = some u := ⟨_, Array.getElem?_eq_getElem (by omega)⟩
                have cg3 := cell_of_block hcs3 hu3
                have fg3 := own_frozen hcs3 i
                have lg3 := own_lt hcs3
                have hM4 := (hM1.out.below hb3).put hi31' hGg hO.srow hF
                have hb4 := (below_step10 hbi hb3 (by have := hGw.out; omega)).setCell (p := ⟨G, i, none⟩) (Nat.le_refl _) (.slice (some ⟨g, 0, none⟩) 31 31)
                have hL4 : Ints (w3.setCell ⟨G, i, none⟩ (.slice (some ⟨g, 0, none⟩) 31 31)) (some ⟨g, 0, none⟩) 31 L := SRow.kept (B := some ⟨G, 0, none⟩) hO.srow grown_set (fun p q hp hq => by cases hp; cases hq; simp only; omega)
                have k1 : (w3.setCell ⟨G, i, none⟩ (.slice (some ⟨g, 0, none⟩) 31 31)).cell? ⟨G, i, none⟩ = some (.slice (some ⟨g, 0, none⟩) 31 31) := cell_of_block (heap_setCell_same w3 G i _ _ _ hcs3) (by rw [Array.getElem?_setIfInBounds, if_pos rfl, if_pos (by omega)])
                obtain ⟨_, _, y, hAA, _, hy, cy⟩ := int_at hL4 (show a < 31 by omega)
                cases hAA
                rw [Nat.zero_add] at cy
                have hyD : L.getD a 0 = y := getD_ofI hy.out
                have hwl := wayP_len (show i ≤ 30 by omega) hF (show a ≤ 30 by omega)
                rw [← hF.eq (show a ≤ 30 by omega)] at hwl
                simp only [hyD] at hwl
                obtain ⟨t, ht⟩ : ∃ t, (wayP ps i a).length = t := ⟨_, rfl⟩
                rw [ht] at hwl hpn
                obtain ⟨hwl1, hwl2⟩ := hwl
                subst hwl1
                have hwS : IntKind.i64.wrap ((S2 : Int) + (t : Int)) = ((S2 + t : Nat) : Int) := by rw [IntWalk.i64_in _ (by omega)]; omega
                have hpn2 := Lib.hid hpn.out
                replace hM4 := Lib.hid hM4
                replace hb4 := Lib.hid hb4
                replace hF := Lib.hid hF
                replace hO := Lib.hid hO
                replace hL4 := Lib.hid hL4
                replace hy := Lib.hid hy
                replace hyD := Lib.hid hyD
                replace ht := Lib.hid ht
                replace hcs3 := Lib.hid hcs3
                clear hfar hM1 hb3 cg
                go_wp2
                go_roundw
                case rel => exact ⟨i + 1, i + 1, mv + t, S2 + t, by omega, by go_num, by first | rfl | go_num, by first | rfl | go_num, by omega, by omega, hpn2.out.1, hpn2.out.2, hM4.out, hb4.out⟩
                case measure => simp [intOf]; omega
              · have cg := cell_of_block hcs hcell
                obtain ⟨_, _, y, hAA, _, hy, cy⟩ := int_at hL (show a < 31 by omega)
                cases hAA
                rw [Nat.zero_add] at cy
                have hyD : L.getD a 0 = y := getD_ofI hy.out
                have hwl := wayP_len (show i ≤ 30 by omega) hF (show a ≤ 30 by omega)
                rw [← hF.eq (show a ≤ 30 by omega)] at hwl
                simp only [hyD] at hwl
                obtain ⟨t, ht⟩ : ∃ t, (wayP ps i a).length = t := ⟨_, rfl⟩
                rw [ht] at hwl hpn
                obtain ⟨hwl1, hwl2⟩ := hwl
                subst hwl1
                have hwS : IntKind.i64.wrap ((S2 : Int) + (t : Int)) = ((S2 + t : Nat) : Int) := by rw [IntWalk.i64_in _ (by omega)]; omega
                have hpn2 := Lib.hid hpn.out
                replace hM1 := Lib.hid hM1
                replace hF := Lib.hid hF
                replace hL := Lib.hid hL
                replace hy := Lib.hid hy
                replace hyD := Lib.hid hyD
                replace ht := Lib.hid ht
                clear hcs hcz hall hcell
                go_wp2
                go_roundw
                case rel => exact ⟨i + 1, i + 1, mv + t, S2 + t, by omega, by go_num, by first | rfl | go_num, by first | rfl | go_num, by omega, by omega, hpn2.out.1, hpn2.out.2, hM1.out, hbi⟩
                case measure => simp [intOf]; omega
        · obtain rfl : i = x.size := by omega
          have gi : ¬ (x.size : Int) < (x.size : Int) := by omega
          have hS3 : Hid (S2 = pageN ps (rs.take (k + 1))) := Lib.hid (by rw [hnext.out, ← hSh.out, hS2, ← hpm]; rfl)
          replace hpa := Lib.hid hpa
          replace hpm := Lib.hid hpm
          replace hM := Lib.hid hM
          go_wp2
          go_roundw
          case rel => exact ⟨k + 1, S2, by omega, by go_num, rfl, hS3.out, by omega, hM.out, hbi⟩
          case measure => simp [intOf]; omega
    · obtain rfl : k = m := by omega
      have gk : ¬ (k : Int) < (k : Int) := by omega
      rw [List.take_of_length_le (by rw [hl.out]; exact Nat.le_refl _)] at hS
      replace hM := Lib.hid hM
      have hSh := Lib.hid hS
      clear hS
      go_wp2
      go_ret
      exact ⟨by rw [hSh.out]; rfl, by rw [← hSh.out]; omega, hbw⟩
end Go.Proofs.Ytcmmcgjpaabnoaa
