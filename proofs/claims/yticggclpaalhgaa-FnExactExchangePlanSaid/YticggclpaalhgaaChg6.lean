/- A layout with two letters exchanged: the model's function. -/
import Derived.Test.YticggclpaalhgaaRev6
namespace Go.Proofs.Yticggclpaalhgaa
open Go.RowKit Go.ChangeShapes Go.WideShapes Go.Deep
set_option linter.unusedVariables false
set_option linter.unusedSimpArgs false

def chg (a b c : UInt8) : UInt8 := if c = a then b else if c = b then a else c
def chgB (a b : UInt8) (s : ByteArray) : ByteArray := ⟨(s.data.toList.map (chg a b)).toArray⟩
/-- Between the rounds: the argument's box, the result's, the new layout's box R and its rows. -/
structure ChW (w0 wr : World) (R : Nat) (V : Value) (l : List ByteArray) : Prop where
  bel : Below w0.heap.size w0 wr
  res : wr.cell? ⟨w0.heap.size, 0, none⟩ = some (.slice none 0 0)
  resF : wr.frozen? ⟨w0.heap.size, 0, none⟩ = false
  out : wr.heap[R]? = some (.cells #[V] 27 (0, 0))
  row : wr.ownsRow (w0.heap.size + 1) 9 1 V l.length (l.flatMap strC)
  far : w0.heap.size + 1 ≤ R
theorem ChW.below {w0 wr w' : World} {R : Nat} {V : Value} {l : List ByteArray} (h : ChW w0 wr R V l) (hb : Below wr.heap.size wr w') : ChW w0 w' R V l := by
  have f : ∀ (p : Addr) u, wr.cell? p = some u → w'.cell? p = some u := fun p u hp => (hb.cell (World.block_lt_of_cell? _ _ hp)).trans hp
  refine ⟨h.bel.trans (hb.mono h.bel.size), f _ _ h.res, ?_, (hb.block R (Array.getElem?_eq_some_iff.1 h.out).1).trans h.out, own_block6 h.row (fun g hg' => hb.block g (own_lt6 h.row hg')), h.far⟩
  exact (hb.frozen (p := ⟨w0.heap.size, 0, none⟩) (World.block_lt_of_cell? _ _ h.res)).trans h.resF
/-- A row more: the append has left V' and the store has laid it into the box. -/
theorem ChW.push {w0 wr w4 : World} {R : Nat} {V V' : Value} {l l' : List ByteArray} (h : ChW w0 wr R V l) (hg : wr.grownBy w4 V.ownBlock) (hrow : w4.ownsRow (w0.heap.size + 1) 9 1 V' l'.length (l'.flatMap strC)) : ChW w0 (w4.setCell ⟨R, 0, none⟩ V') R V' l' := by
  have hap := row_apart h.row h.out
  have hge : ∀ g, V.ownBlock = some g → w0.heap.size + 1 ≤ g := fun g hg' => own_ge6 h.row hg'
  have hR4 : w4.heap[R]? = some (.cells #[V] 27 (0, 0)) := (hg.block R (Array.getElem?_eq_some_iff.1 h.out).1 (fun e => hap R e.symm rfl)).trans h.out
  have hap' := row_apart hrow hR4
  have hfar := h.far
  have f : ∀ (k : Nat) u, k < w0.heap.size + 1 → wr.cell? ⟨k, 0, none⟩ = some u → (w4.setCell ⟨R, 0, none⟩ V').cell? ⟨k, 0, none⟩ = some u := fun k u hk hp => by
    rw [World.cell?_setCell_other _ _ _ _ (fun e => by injection e with e1; omega)]
    exact (World.cell?_of_block (a := ⟨k, 0, none⟩) (hg.block k (World.block_lt_of_cell? _ _ hp) (fun e => by have := hge k e.symm; omega))).trans hp
  refine ⟨(Below.grown h.bel hg h.bel.size (fun q hq => by have := hge q hq; omega)).setCell (p := ⟨R, 0, none⟩) (by simp only; omega) _, f _ _ (by omega) h.res, ?_, ?_, own_block6 hrow (fun g hg' => Below.heap_setCell _ _ _ _ (hap' g hg')), h.far⟩
  · rw [World.frozen?_setCell]
    exact (World.frozen?_of_block (hg.block (w0.heap.size) (World.block_lt_of_cell? _ _ h.res) (fun e => by have := hge _ e.symm; omega))).trans h.resF
  · simp [World.setCell, Array.getElem?_modify, hR4]


theorem chg_step (a b : UInt8) (l : List UInt8) {k : Nat} {c : UInt8} (h : l[k]? = some c) : ((l.take k).map (chg a b) ++ l.drop k).set k (chg a b c) = (l.take (k + 1)).map (chg a b) ++ l.drop (k + 1) := by
  obtain ⟨h1, h2⟩ := List.getElem?_eq_some_iff.1 h
  have hl : ((l.take k).map (chg a b)).length = k := by rw [List.length_map, List.length_take]; omega
  rw [List.set_append_right _ _ (by omega), hl, Nat.sub_self, List.drop_eq_getElem_cons h1, h2, List.set_cons_zero, List.take_succ_eq_append_getElem h1, h2, List.map_append]
  simp
theorem chg_at (a b : UInt8) (l : List UInt8) {k : Nat} {c : UInt8} (h : l[k]? = some c) : ((l.take k).map (chg a b) ++ l.drop k)[k]? = some c := by
  obtain ⟨h1, h2⟩ := List.getElem?_eq_some_iff.1 h
  have hl : ((l.take k).map (chg a b)).length = k := by rw [List.length_map, List.length_take]; omega
  rw [List.getElem?_append_right (by omega), hl, Nat.sub_self, List.getElem?_drop, Nat.add_zero]
  exact h

set_option maxRecDepth 100000 in
set_option maxHeartbeats 3200000 in
theorem chg_spec (R0 : Nat) (A : Option Addr) (n c : Nat) (xs : List ByteArray) (a b : UInt8) (w : World) (hR : w.cell? ⟨R0, 0, none⟩ = some (.slice A n c)) (h : Strs w A n xs) (hn : n ≤ 1048576) (hs : ∀ x ∈ xs, x.size ≤ 1048576) :
    Calls Try.prog 89 #[.pointer (some ⟨R0, 0, none⟩), .int .u8 (a.toNat : Int), .int .u8 (b.toNat : Int)] w (WrOut (xs.map (chgB a b)) w) := by
  have hl := Lib.hid h.1
  replace hs := Lib.hid hs
  have ha8 := a.toNat_lt
  have hb8 := b.toNat_lt
  have hR0l : R0 < w.heap.size := World.block_lt_of_cell? _ _ hR
  obtain ⟨i0, hi, hz0, hz1, hz2⟩ := info_parts Try.infoStr
  go_enter Try.func89, Try.ntmps89
  go_wp2
  have hb0 := Lib.hid (below_a1 w (.cells #[.slice none 0 0] 27))
  have d1 : (w.alloc (.cells #[.slice none 0 0] 27)).cell? ⟨w.heap.size, 0, none⟩ = some (.slice none 0 0) := cell_new rfl rfl
  have e1 : (w.alloc (.cells #[.slice none 0 0] 27)).frozen? ⟨w.heap.size, 0, none⟩ = false := frozen_new rfl
  have hsz1 : (w.alloc (.cells #[.slice none 0 0] 27)).heap.size = w.heap.size + 1 := by simp
  generalize hw1 : w.alloc (.cells #[.slice none 0 0] 27) = w1 at *
  have hem := strs_empty w1 (w.heap.size + 1) (by omega)
  rw [hsz1] at hem
  have hM0 : ChW w ((w1.alloc (.cells #[] 9)).alloc (.cells #[.slice (some ⟨w.heap.size + 1, 0, none⟩) 0 0] 27)) (w.heap.size + 1 + 1) (.slice (some ⟨w.heap.size + 1, 0, none⟩) 0 0) [] :=
    ⟨hb0.out.trans ((below_a2 w1 _ _).mono hb0.out.size), cell_on (cell_on d1 _) _, frozen_on (by simp; omega) (frozen_on (by omega) e1 _) _, by rw [show w.heap.size + 1 + 1 = (w1.alloc (.cells #[] 9)).heap.size by simp [hsz1]]; exact heap_alloc_new _ _, own_block6 hem (fun g hg => by simp [Value.ownBlock] at hg; subst hg; rw [Below.heap_alloc _ _ _ (by simp; omega)]), by omega⟩
  replace hM0 := Lib.hid hM0
  generalize ((w1.alloc (.cells #[] 9)).alloc (.cells #[.slice (some ⟨w.heap.size + 1, 0, none⟩) 0 0] 27)) = wa at *
  generalize hRR : w.heap.size + 1 + 1 = R at *
  generalize (.slice (some ⟨w.heap.size + 1, 0, none⟩) 0 0 : Value) = V0 at *
  clear d1 e1 hem hw1 hb0
  go_loopw [8, 9, 10, 39, 40, 47] (fun i _ _ _ _ _ wr => ∃ (k : Nat) (V : Value), k ≤ n ∧ i = .int .i64 k ∧ ChW w wr R V ((xs.take k).map (chgB a b))) (fun i _ _ _ _ _ _ => n - (intOf i).toNat)
  case atStart => exact ⟨0, V0, by omega, rfl, hM0.out⟩
  case round =>
    obtain ⟨k, V, hk, rfl, hM⟩ := hrel
    replace hM := Lib.hid hM
    have m0 := (hM.out.bel.cell (p := ⟨R0, 0, none⟩) hR0l).trans hR
    by_cases hlt : k < n
    · obtain ⟨bk, off, s, rfl, hb, hx, c0⟩ := str_at (h.below hM.out.bel) hlt
      have hssz : s.size ≤ 1048576 := hs.out s (List.mem_of_getElem? hx.out)
      have hk0 : (0 : Int) ≤ (k : Int) := Int.natCast_nonneg _
      have hk1 : (k : Int) < (n : Int) := by omega
      have hMs := hM.out.bel.size
      have hcv := Lib.run_convert_string_bytes (P := Try.prog) wr 9 81 5 s Try.underlying9 Try.underlying81 Try.underlying5
      have hrow0 := Lib.hid (brow_new wr s)
      have hbb := Lib.hid (bytesWorld_below wr s)
      generalize Lib.bytesWorld wr 5 s = wb at *
      generalize grownCap wr s.size 0 5 = cp at *
      have hB1 := Lib.hid (hM.out.below hbb.out)
      generalize hG : wr.heap.size = G at *
      go_wp2
      go_loopw [10, 39, 40, 47] (fun j _ _ _ wq => ∃ q : Nat, q ≤ s.size ∧ j = .int .i64 (q : Int) ∧ BRow wq G ((s.data.toList.take q).map (chg a b) ++ s.data.toList.drop q) ∧ Below G wr wq) (fun j _ _ _ _ => s.size - (intOf j).toNat)
      case atStart => exact ⟨0, by omega, rfl, by simpa using hrow0.out, hbb.out⟩
      case round =>
        rename World => wq
        obtain ⟨q, hq, rfl, hO, hbq⟩ := hrel
        replace hO := Lib.hid hO
        by_cases hlt2 : q < s.size
        · have hat := Lib.hid (bytes_at s hlt2)
          have hq0 : (0 : Int) ≤ (q : Int) := Int.natCast_nonneg _
          have hq1 : (q : Int) < (s.size : Int) := by omega
          have hlen : ((s.data.toList.take q).map (chg a b) ++ s.data.toList.drop q).length = s.size := by
            rw [List.length_append, List.length_map, List.length_take, List.length_drop, size_len]; omega
          have d0 := hO.out.cell q _ (chg_at a b s.data.toList hat.out)
          have e0 := hO.out.free q (by omega)
          have hst := Lib.hid (chg_step a b s.data.toList hat.out)
          have hset := fun (y : UInt8) => hO.out.set (i := q) (b := y) (by omega)
          replace hset := Lib.hid hset
          have hGl : G < wq.heap.size := World.block_lt_of_cell? _ _ d0
          by_cases ea : s[q]'hlt2 = a
          · have g1 : (((s[q]'hlt2).toNat : Int) == (a.toNat : Int)) = true := by rw [ea]; exact beq_self_eq_true _
            have hnx : Hid (BRow (wq.setCell ⟨G, q, none⟩ (.int .u8 (b.toNat : Int))) G ((s.data.toList.take (q + 1)).map (chg a b) ++ s.data.toList.drop (q + 1))) := Lib.hid (by
              rw [← hst.out, show chg a b (s[q]'hlt2) = b by simp [chg, ea]]
              exact hset.out b)
            have hb2 := Lib.hid (hbq.setCell (p := ⟨G, q, none⟩) (Nat.le_refl _) (.int .u8 (b.toNat : Int)))
            clear ea hset hst hat
            go_wp2
            go_roundw
            case rel => exact ⟨q + 1, by omega, by go_num, hnx.out, hb2.out⟩
            case measure => simp [intOf]; omega
          · have g1 : (((s[q]'hlt2).toNat : Int) == (a.toNat : Int)) = false := beq_eq_false_iff_ne.2 (fun e => ea (UInt8.toNat_inj.1 (by omega)))
            by_cases eb : s[q]'hlt2 = b
            · have g2 : (((s[q]'hlt2).toNat : Int) == (b.toNat : Int)) = true := by rw [eb]; exact beq_self_eq_true _
              have hnx : Hid (BRow (wq.setCell ⟨G, q, none⟩ (.int .u8 (a.toNat : Int))) G ((s.data.toList.take (q + 1)).map (chg a b) ++ s.data.toList.drop (q + 1))) := Lib.hid (by
                rw [← hst.out, show chg a b (s[q]'hlt2) = a by unfold chg; rw [if_neg ea, if_pos eb]]
                exact hset.out a)
              have hb2 := Lib.hid (hbq.setCell (p := ⟨G, q, none⟩) (Nat.le_refl _) (.int .u8 (a.toNat : Int)))
              clear ea eb hset hst hat
              go_wp2
              go_roundw
              case rel => exact ⟨q + 1, by omega, by go_num, hnx.out, hb2.out⟩
              case measure => simp [intOf]; omega
            · have g2 : (((s[q]'hlt2).toNat : Int) == (b.toNat : Int)) = false := beq_eq_false_iff_ne.2 (fun e => eb (UInt8.toNat_inj.1 (by omega)))
              have hnx : Hid (BRow wq G ((s.data.toList.take (q + 1)).map (chg a b) ++ s.data.toList.drop (q + 1))) := Lib.hid (by
                rw [← hst.out, show chg a b (s[q]'hlt2) = s[q]'hlt2 by unfold chg; rw [if_neg ea, if_neg eb]]
                have e9 : (((s.data.toList.take q).map (chg a b) ++ s.data.toList.drop q).set q (s[q]'hlt2)) = ((s.data.toList.take q).map (chg a b) ++ s.data.toList.drop q) := by
                  refine List.ext_getElem? fun i => ?_
                  by_cases hi : i = q
                  · subst hi
                    rw [List.getElem?_set_self (by omega), chg_at a b s.data.toList hat.out]
                  · rw [List.getElem?_set_ne (fun e => hi e.symm)]
                rw [e9]
                exact hO.out)
              clear ea eb hset hst hat
              go_wp2
              go_roundw
              case rel => exact ⟨q + 1, by omega, by go_num, hnx.out, hbq⟩
              case measure => simp [intOf]; omega
        · obtain rfl : q = s.size := by omega
          have hO2 := hO.out
          have et : s.data.toList.take s.size = s.data.toList := List.take_of_length_le (by rw [size_len]; exact Nat.le_refl _)
          have ed : s.data.toList.drop s.size = [] := List.drop_of_length_le (by rw [size_len]; exact Nat.le_refl _)
          rw [et, ed, List.append_nil] at hO2
          have hback := run_convert_bytes_back (P := Try.prog) wq 81 9 5 ⟨G, 0, none⟩ cp (s.data.toList.map (chg a b)) Try.underlying81 Try.underlying5 Try.underlying9 (fun j hj => by
            have := hO2.cell j _ (List.getElem?_eq_getElem hj)
            rw [← this]
            unfold Addr.add
            split
            · rename_i e; rw [e]
            · simp)
          rw [List.length_map, size_len, show (⟨(s.data.toList.map (chg a b)).toArray⟩ : ByteArray) = chgB a b s from rfl] at hback
          have hMq := Lib.hid (hM.out.below (hG ▸ hbq))
          have mo := own_cell (o := 0) hMq.out.out rfl
          have mf := own_frozen hMq.out.out 0
          have hlR : R < wq.heap.size := World.block_lt_of_cell? _ _ mo
          have hkl : ((xs.take k).map (chgB a b)).length = k := by rw [List.length_map, List.length_take, hl.out]; omega
          have hst := Lib.hid (show ((xs.take (k + 1)).map (chgB a b)) = (xs.take k).map (chgB a b) ++ [chgB a b s] by
            obtain ⟨h5, h6⟩ := List.getElem?_eq_some_iff.1 hx.out
            rw [List.take_succ_eq_append_getElem h5, List.map_append, h6]; rfl)
          have hrow := Lib.hid (hMq.out.row)
          rw [hkl] at hrow
          clear hO2
          go_wp2_with (at_builtin; refine wpList_append_own _ rfl _ _ 22 rfl (w.heap.size + 1) 9 i0 _ 1 16 Try.underlying22 hi hz0 hz1 hz2 rfl (by decide) _ _ _ rfl (hrow.out.alloc _) ⟨wq.heap.size, 0, none⟩ 1 1 [.string (chgB a b s)] rfl rfl ?a1 ?b1 ?c1 ?d1 ?e1 ?_)
          case a1 =>
            intro i u hi
            match i, hi with
            | 0, hi => cases hi; exact cell_new (by simp [Addr.add]) rfl
            | i + 1, hi => simp at hi
          case b1 =>
            intro u hu
            simp only [List.mem_cons, List.not_mem_nil, or_false] at hu
            rcases hu with rfl
            rfl
          case c1 => unfold maxLen; omega
          case d1 => omega
          case e1 => have := hMq.out.far; simp; omega
          intro v' w4 hown3 hgr3 hnil
          have hgr := grown_trans (grown_below (below_a1 wq _) _) hgr3
          have hap := row_apart hMq.out.row hMq.out.out
          have mo4 : w4.heap[R]? = some (.cells #[V] 27 (0, 0)) := (hgr.block R hlR (fun e => hap R e.symm rfl)).trans hMq.out.out
          have mo5 := own_cell (o := 0) mo4 rfl
          have mf5 := own_frozen mo4 0
          have hk2 : ((xs.take (k + 1)).map (chgB a b)).length = k + 1 := by rw [List.length_map, List.length_take, hl.out]; omega
          have hrw : w4.ownsRow (w.heap.size + 1) 9 1 v' (k + 1) (((xs.take (k + 1)).map (chgB a b)).flatMap strC) := by
            rw [hst.out, str_snoc, List.map_take]
            exact hown3
          clear hnil hown3
          obtain ⟨A5, c5, rfl, _⟩ := str_row hk2 hrw
          have hpush := Lib.hid (hMq.out.push (V' := .slice A5 (k + 1) c5) (l' := (xs.take (k + 1)).map (chgB a b)) hgr (by rw [hk2]; exact hrw))
          clear hrw hgr3 hgr hap
          go_wp2
          go_roundw
          case rel => exact ⟨k + 1, _, by omega, by go_num, hpush.out⟩
          case measure => simp [intOf]; omega
    · obtain rfl : k = n := by omega
      have hfin : Hid ((xs.take k).map (chgB a b) = xs.map (chgB a b)) := Lib.hid (by rw [List.take_of_length_le (by rw [hl.out]; exact Nat.le_refl _)])
      have hkl : ((xs.take k).map (chgB a b)).length = k := by rw [List.length_map, List.length_take, hl.out]; omega
      obtain ⟨A', c', rfl, hO⟩ := str_row hkl (by have := hM.out.row; rwa [hkl] at this)
      rw [hfin.out] at hO
      replace hO := Lib.hid hO
      have mo := own_cell (o := 0) hM.out.out rfl
      have hlR : R < wr.heap.size := World.block_lt_of_cell? _ _ mo
      have mr := hM.out.res
      have mf := hM.out.resF
      have hfar := hM.out.far
      go_wp2
      have rc : (wr.setCell ⟨w.heap.size, 0, none⟩ (.slice A' k c')).cell? ⟨w.heap.size, 0, none⟩ = some (.slice A' k c') := World.cell?_setCell_same _ _ _ mr
      have hbf := Lib.hid (hM.out.bel.setCell (p := ⟨w.heap.size, 0, none⟩) (Nat.le_refl _) (.slice A' k c'))
      have hOf : Hid (OStrs (wr.setCell ⟨w.heap.size, 0, none⟩ (.slice A' k c')) w.heap.size A' k (xs.map (chgB a b))) := Lib.hid ((hO.out.mono (by omega)).block (fun p hp => Below.heap_setCell _ _ _ _ (by have := hO.out.own p hp; simp only; omega)))
      generalize wr.setCell ⟨w.heap.size, 0, none⟩ (.slice A' k c') = wz at *
      refine bodyPost_ret (v := .agg #[.slice A' k c']) (by simp [results, Try.results89, go_sem, rc]) rfl ?_
      exact ⟨A', k, c', rfl, hn, hOf.out, hbf.out⟩
end Go.Proofs.Yticggclpaalhgaa
