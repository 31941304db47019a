/- MirrorLayout: the model's function. -/
import Derived.Test.YticggclpaalhgaaSpB
import Derived.Test.YticggclpaalhgaaRdC
import Derived.Test.YticggclpaalhgaaByteR
import Derived.Laws.NewBlocks
namespace Go.Proofs.Yticggclpaalhgaa
open Go.RowKit Go.ChangeShapes Go.WideShapes Go.Deep
set_option linter.unusedVariables false
set_option linter.unusedSimpArgs false

def mirB (s : ByteArray) : ByteArray := ⟨s.data.toList.reverse.toArray⟩
def mirR (xs : List ByteArray) : List ByteArray × Int := if layOk xs = true then (xs.map mirB, 0) else ([], 1)
def LyOut (r : List ByteArray × Int) (w : World) (e : Ending) (w' : World) : Prop := ∃ A n c, e = .returned (.tuple #[.agg #[.slice A n c], .int .i64 r.2]) ∧ n ≤ 1048576 ∧ OStrs w' w.heap.size A n r.1 ∧ Below w.heap.size w w'
theorem strs_empty (w : World) (N : Nat) (hN : N ≤ w.heap.size) : (w.alloc (.cells #[] 9)).ownsRow N 9 1 (.slice (some ⟨w.heap.size, 0, none⟩) 0 0) 0 [] := by
  have := World.ownsRow_lit (w := w) (e := 9) (base := N) (size := 1) #[] 0 hN (by simp [maxLen]) (by simp)
  simpa using this
theorem bytes_empty (w : World) (N : Nat) (hN : N ≤ w.heap.size) : (w.alloc (.cells #[] 5)).ownsRow N 5 1 (.slice (some ⟨w.heap.size, 0, none⟩) 0 0) 0 [] := by
  have := World.ownsRow_lit (w := w) (e := 5) (base := N) (size := 1) #[] 0 hN (by simp [maxLen]) (by simp)
  simpa using this
theorem own_ge6 {w : World} {base : Nat} {E : TypeId} {size n g : Nat} {v : Value} {xs : List Value} (h : w.ownsRow base E size v n xs) (hg : v.ownBlock = some g) : base ≤ g := by
  obtain ⟨_, ⟨rfl, _⟩ | ⟨g', cap, cur, rfl, hb, _⟩⟩ := h
  · cases hg
  · cases hg; exact hb
theorem own_lt6 {w : World} {base : Nat} {E : TypeId} {size n g : Nat} {v : Value} {xs : List Value} (h : w.ownsRow base E size v n xs) (hg : v.ownBlock = some g) : g < w.heap.size := by
  obtain ⟨_, ⟨rfl, _⟩ | ⟨g', cap, cur, rfl, hb, hgg, _⟩⟩ := h
  · cases hg
  · cases hg; exact (Array.getElem?_eq_some_iff.1 hgg).1
theorem own_block6 {w w' : World} {base : Nat} {E : TypeId} {size n : Nat} {v : Value} {xs : List Value} (h : w.ownsRow base E size v n xs) (hk : ∀ g, v.ownBlock = some g → w'.heap[g]? = w.heap[g]?) : w'.ownsRow base E size v n xs := by
  obtain ⟨h1, h2 | ⟨g', cap, cur, h3, h4, h5, h6⟩⟩ := h
  · exact ⟨h1, .inl h2⟩
  · subst h3
    exact ⟨h1, .inr ⟨g', cap, cur, rfl, h4, (hk g' rfl).trans h5, h6⟩⟩
theorem str_snoc (l : List ByteArray) (x : ByteArray) : (l ++ [x]).flatMap strC = l.flatMap strC ++ [.string x] := by simp [strC]
theorem str_row {w : World} {base n : Nat} {L : Value} {l : List ByteArray} (hn : l.length = n) (h : w.ownsRow base 9 1 L n (l.flatMap strC)) : ∃ A c, L = .slice A n c ∧ OStrs w base A n l := by
  subst hn
  exact ORow.of_owns (fun _ => rfl) h
theorem rev_step (s : ByteArray) {k : Nat} (hk : k < s.size) : (s.data.toList.drop k).reverse = (s.data.toList.drop (k + 1)).reverse ++ [s[k]'hk] := by
  rw [bytes_drop s hk, List.reverse_cons]
/-- Between the rounds: the argument's box, the result's, the new layout's box R and its rows. -/
structure MirW (w0 wr : World) (A : Option Addr) (n c : Nat) (R : Nat) (V : Value) (l : List ByteArray) : Prop where
  bel : Below w0.heap.size w0 wr
  box : wr.cell? ⟨w0.heap.size, 0, none⟩ = some (.slice A n c)
  res : wr.cell? ⟨w0.heap.size + 1, 0, none⟩ = some (.slice none 0 0)
  resF : wr.frozen? ⟨w0.heap.size + 1, 0, none⟩ = false
  out : wr.heap[R]? = some (.cells #[V] 27 (0, 0))
  row : wr.ownsRow (w0.heap.size + 2) 9 1 V l.length (l.flatMap strC)
  far : w0.heap.size + 2 ≤ R
theorem row_apart {w : World} {base size n : Nat} {V : Value} {xs : List Value} {cs : Array Value} {fz : Nat × Nat} {R : Nat} (h : w.ownsRow base 9 size V n xs) (hR : w.heap[R]? = some (.cells cs 27 fz)) : ∀ g, V.ownBlock = some g → g ≠ R := by
  intro g hg e
  subst e
  obtain ⟨_, ⟨rfl, _⟩ | ⟨g', cap, cur, rfl, hb, hgg, _⟩⟩ := h
  · cases hg
  · cases hg
    rw [hR] at hgg
    injection hgg with h1
    injection h1 with _ h2 _
    exact absurd h2 (by decide)
theorem MirW.below {w0 wr w' : World} {A : Option Addr} {n c R : Nat} {V : Value} {l : List ByteArray} (h : MirW w0 wr A n c R V l) (hb : Below wr.heap.size wr w') : MirW w0 w' A n c R V l := by
  have f : ∀ (p : Addr) u, wr.cell? p = some u → w'.cell? p = some u := fun p u hp => (hb.cell (World.block_lt_of_cell? _ _ hp)).trans hp
  refine ⟨h.bel.trans (hb.mono h.bel.size), f _ _ h.box, f _ _ h.res, ?_, (hb.block R (Array.getElem?_eq_some_iff.1 h.out).1).trans h.out, own_block6 h.row (fun g hg' => hb.block g (own_lt6 h.row hg')), h.far⟩
  exact (hb.frozen (p := ⟨w0.heap.size + 1, 0, none⟩) (World.block_lt_of_cell? _ _ h.res)).trans h.resF
/-- A row more: the append has left V' and the store has laid it into the box. -/
theorem MirW.push {w0 wr w4 : World} {A : Option Addr} {n c R : Nat} {V V' : Value} {l l' : List ByteArray} (h : MirW w0 wr A n c R V l) (hg : wr.grownBy w4 V.ownBlock) (hrow : w4.ownsRow (w0.heap.size + 2) 9 1 V' l'.length (l'.flatMap strC)) : MirW w0 (w4.setCell ⟨R, 0, none⟩ V') A n c R V' l' := by
  have hap := row_apart h.row h.out
  have hge : ∀ g, V.ownBlock = some g → w0.heap.size + 2 ≤ g := fun g hg' => own_ge6 h.row hg'
  have hR4 : w4.heap[R]? = some (.cells #[V] 27 (0, 0)) := (hg.block R (Array.getElem?_eq_some_iff.1 h.out).1 (fun e => hap R e.symm rfl)).trans h.out
  have hap' := row_apart hrow hR4
  have hfar := h.far
  have f : ∀ (k : Nat) u, k < w0.heap.size + 2 → wr.cell? ⟨k, 0, none⟩ = some u → (w4.setCell ⟨R, 0, none⟩ V').cell? ⟨k, 0, none⟩ = some u := fun k u hk hp => by
    rw [World.cell?_setCell_other _ _ _ _ (fun e => by injection e with e1; omega)]
    exact (World.cell?_of_block (a := ⟨k, 0, none⟩) (hg.block k (World.block_lt_of_cell? _ _ hp) (fun e => by have := hge k e.symm; omega))).trans hp
  refine ⟨(Below.grown h.bel hg h.bel.size (fun q hq => by have := hge q hq; omega)).setCell (p := ⟨R, 0, none⟩) (by simp only; omega) _, f _ _ (by omega) h.box, f _ _ (by omega) h.res, ?_, ?_, own_block6 hrow (fun g hg' => Below.heap_setCell _ _ _ _ (hap' g hg')), h.far⟩
  · rw [World.frozen?_setCell]
    exact (World.frozen?_of_block (hg.block (w0.heap.size + 1) (World.block_lt_of_cell? _ _ h.res) (fun e => by have := hge _ e.symm; omega))).trans h.resF
  · simp [World.setCell, Array.getElem?_modify, hR4]

set_option maxRecDepth 100000 in
set_option maxHeartbeats 3200000 in
theorem mi_spec (A : Option Addr) (n c : Nat) (xs : List ByteArray) (w : World) (h : Strs w A n xs) (hn : n ≤ 1048576) (hs : ∀ x ∈ xs, x.size ≤ 1048576) :
    Calls Try.prog 42 #[.agg #[.slice A n c]] w (LyOut (mirR xs) w) := by
  generalize hr : mirR xs = r
  replace hr := Lib.hid hr.symm
  have hl := Lib.hid h.1
  have hb0 := Lib.hid (below_a2 w (.cells #[.slice A n c] 27) (.cells #[.slice none 0 0] 27))
  have hS := h.below hb0.out
  have k0 : ((w.alloc (.cells #[.slice A n c] 27)).alloc (.cells #[.slice none 0 0] 27)).cell? ⟨w.heap.size, 0, none⟩ = some (.slice A n c) := cell_on (cell_new rfl rfl) _
  have k1 : ((w.alloc (.cells #[.slice A n c] 27)).alloc (.cells #[.slice none 0 0] 27)).cell? ⟨w.heap.size + 1, 0, none⟩ = some (.slice none 0 0) := cell_new (by simp) rfl
  have f1 : ((w.alloc (.cells #[.slice A n c] 27)).alloc (.cells #[.slice none 0 0] 27)).frozen? ⟨w.heap.size + 1, 0, none⟩ = false := frozen_new (by simp)
  cases h1 : layOk xs with
  | false =>
    have hres : Hid (r = ([], 1)) := Lib.hid (by rw [hr.out]; simp [mirR, h1])
    have hq := Lib.hid (ok6_spec w.heap.size A n c xs _ k0 hS hn hs false h1)
    clear h1 hr
    go_enter Try.func42, Try.ntmps42
    go_wp2_with fail
    refine hq.out.mono ?_
    rintro e w1 ⟨rfl, hb1⟩
    have hbw := Lib.hid (hb0.out.step hb1)
    have d1 := cell_step k1 hb1
    have e1 := (hb1.frozen (p := ⟨w.heap.size + 1, 0, none⟩) (by simp)).trans f1
    go_wp2
    have rc : (w1.setCell ⟨w.heap.size + 1, 0, none⟩ (.slice none 0 0)).cell? ⟨w.heap.size + 1, 0, none⟩ = some (.slice none 0 0) := World.cell?_setCell_same _ _ _ d1
    have hbf := Lib.hid (hbw.out.setCell (p := ⟨w.heap.size + 1, 0, none⟩) (by simp only; omega) (.slice none 0 0))
    generalize w1.setCell ⟨w.heap.size + 1, 0, none⟩ (.slice none 0 0) = wz at *
    refine bodyPost_ret (v := .tuple #[.agg #[.slice none 0 0], .int .i64 1]) (by simp [results, Try.results42, go_sem, rc]) rfl ?_
    exact ⟨none, 0, 0, by rw [hres.out], by omega, by rw [hres.out]; exact ⟨rfl, .inl ⟨rfl, rfl⟩⟩, hbf.out⟩
  | true =>
    have hq := Lib.hid (ok6_spec w.heap.size A n c xs _ k0 hS hn hs true h1)
    obtain ⟨⟨h3, h4⟩, h12⟩ := (⟨(layOk_iff.1 h1).1, fun x hx => (rowOk6_iff.1 ((layOk_iff.1 h1).2.1 x hx)).1.2⟩ : (1 ≤ xs.length ∧ xs.length ≤ 4) ∧ ∀ x ∈ xs, x.size ≤ 12)
    have hres : Hid (r = (xs.map mirB, 0)) := Lib.hid (by rw [hr.out]; simp [mirR, h1])
    obtain ⟨i0, hi, hz0, hz1, hz2⟩ := info_parts Try.infoStr
    obtain ⟨j0, hj, hy0, hy1, hy2⟩ := info_parts Try.infoU8
    rw [hl.out] at h4
    replace h12 := Lib.hid h12
    clear h1 hr h3
    go_enter Try.func42, Try.ntmps42
    go_wp2_with fail
    refine hq.out.mono ?_
    rintro e w1 ⟨rfl, hb1⟩
    have hbw := Lib.hid (hb0.out.step hb1)
    have d0 := cell_step k0 hb1
    have d1 := cell_step k1 hb1
    have e1 := (hb1.frozen (p := ⟨w.heap.size + 1, 0, none⟩) (by simp)).trans f1
    go_wp2
    have hzz := hb1.size
    simp only [World.size_alloc] at hzz
    have hem := strs_empty w1 (w.heap.size + 2) (by omega)
    have hM0 : MirW w ((w1.alloc (.cells #[] 9)).alloc (.cells #[.slice (some ⟨w1.heap.size, 0, none⟩) 0 0] 27)) A n c (w1.heap.size + 1) (.slice (some ⟨w1.heap.size, 0, none⟩) 0 0) [] :=
      ⟨hbw.out.step (below_a2 _ _ _), cell_on (cell_on d0 _) _, cell_on (cell_on d1 _) _, frozen_on (by simp; omega) (frozen_on (by omega) e1 _) _, by rw [show w1.heap.size + 1 = (w1.alloc (.cells #[] 9)).heap.size by simp]; exact heap_alloc_new _ _, own_block6 hem (fun g hg => by simp [Value.ownBlock] at hg; subst hg; rw [Below.heap_alloc _ _ _ (by simp)]), by omega⟩
    have hS2 := hS.below hb1
    have hbM := Lib.hid (below_a2 w1 (.cells #[] 9) (.cells #[.slice (some ⟨w1.heap.size, 0, none⟩) 0 0] 27))
    replace hM0 := Lib.hid hM0
    generalize ((w1.alloc (.cells #[] 9)).alloc (.cells #[.slice (some ⟨w1.heap.size, 0, none⟩) 0 0] 27)) = wa at *
    generalize hRR : w1.heap.size + 1 = R at *
    generalize (.slice (some ⟨w1.heap.size, 0, none⟩) 0 0 : Value) = V0 at *
    clear d0 d1 e1 k0 k1 f1 hq hem
    go_loopw [5, 6, 7] (fun i _ _ wr => ∃ (k : Nat) (V : Value), k ≤ n ∧ i = .int .i64 k ∧ MirW w wr A n c R V ((xs.take k).map mirB)) (fun i _ _ _ => n - (intOf i).toNat)
    case atStart => exact ⟨0, V0, by omega, rfl, hM0.out⟩
    case round =>
      obtain ⟨k, V, hk, rfl, hM⟩ := hrel
      replace hM := Lib.hid hM
      have m0 := hM.out.box
      by_cases hlt : k < n
      · obtain ⟨b, off, s, rfl, hb, hx, c0⟩ := str_at (h.below hM.out.bel) hlt
        have hs12 : s.size ≤ 12 := h12.out s (List.mem_of_getElem? hx.out)
        have hk0 : (0 : Int) ≤ (k : Int) := Int.natCast_nonneg _
        have hk1 : (k : Int) < (n : Int) := by omega
        have hv1 : IntKind.i64.wrap ((s.size : Int) - 1) = (s.size : Int) - 1 := IntWalk.i64_in _ (by omega)
        have hMs := hM.out.bel.size
        have hlb : w.heap.size < wr.heap.size := World.block_lt_of_cell? _ _ m0
        go_wp2
        have hemb := bytes_empty wr (w.heap.size + 2) (by have := (Array.getElem?_eq_some_iff.1 hM.out.out).1; have := hM.out.far; omega)
        have hMa := Lib.hid (hM.out.below (below_a1 wr (.cells #[] 5)))
        have hob : OBytes (wr.alloc (.cells #[] 5)) wr.heap.size (.slice (some ⟨wr.heap.size, 0, none⟩) 0 0) [] := bytes_empty wr wr.heap.size (Nat.le_refl _)
        replace hob := Lib.hid hob
        have hbb := Lib.hid (below_a1 wr (.cells #[] 5))
        generalize hBz : wr.heap.size = Bz at *
        clear hemb
        go_loopw [6, 7] (fun v j wq => ∃ q : Nat, q ≤ s.size ∧ j = .int .i64 ((q : Int) - 1) ∧ OBytes wq Bz v ((s.data.toList.drop q).reverse) ∧ Below Bz wr wq) (fun _ j _ => (intOf j + 1).toNat)
        case atStart => exact ⟨s.size, by omega, rfl, by rw [List.drop_of_length_le (by rw [size_len]; exact Nat.le_refl _)]; exact hob.out, hBz ▸ hbb.out⟩
        case round =>
          rename World => wq
          obtain ⟨q, hq, rfl, hO, hbq⟩ := hrel
          replace hO := Lib.hid hO
          have hMq := Lib.hid (hM.out.below (hBz ▸ hbq))
          have m1 := hMq.out.box
          have c1 := hbq.cell (p := ⟨b, off + k, none⟩) (by simp only; omega)
          rw [c0] at c1
          by_cases hq0 : 0 < q
          · obtain ⟨p, rfl⟩ : ∃ p, q = p + 1 := ⟨q - 1, by omega⟩
            have gq : decide ((0 : Int) ≤ (p : Int)) = true := decide_eq_true (by omega)
            have hqs : p < s.size := by omega
            have hst := Lib.hid (rev_step s hqs)
            have ep : (((p + 1 : Nat) : Int) - 1) = (p : Int) := by omega
            rw [ep]
            have hi0 : (0 : Int) ≤ (p : Int) := by omega
            have hi1 : (p : Int) < (s.size : Int) := by omega
            have hlen1 : ((s.data.toList.drop (p + 1)).reverse).length ≤ 12 := by rw [List.length_reverse, List.length_drop, size_len]; omega
            have hbz : Bz ≤ wq.heap.size := by have := hbq.size; omega
            have hs1 : IntKind.i64.wrap ((p : Int) - 1) = (p : Int) - 1 := IntWalk.i64_in _ (by omega)
            generalize hL : (s.data.toList.drop (p + 1)).reverse = L at *
            replace hL := Lib.hid hL
            clear ep
            go_wp2_with (at_builtin; refine wpList_append_own _ rfl _ _ 81 rfl Bz 5 j0 _ 1 1 Try.underlying81 hj hy0 hy1 hy2 rfl (by decide) _ _ _ rfl (hO.out.alloc _) ⟨wq.heap.size, 0, none⟩ 1 1 [.int .u8 ((s[p]'hqs).toNat : Int)] rfl rfl ?a1 ?b1 ?c1 ?d1 ?e1 ?_)
            case a1 =>
              intro i u hi
              match i, hi with
              | 0, hi => cases hi; exact cell_new (by simp [Addr.add]) rfl
              | i + 1, hi => simp at hi
            case b1 =>
              intro u hu
              simp only [List.mem_cons, List.not_mem_nil, or_false] at hu
              rcases hu with rfl
              rfl
            case c1 => unfold maxLen; omega
            case d1 => omega
            case e1 => simp; omega
            intro v' w4 hown3 hgr3 hnil
            have hgr := grown_trans (grown_below (below_a1 wq _) _) hgr3
            have hrel4 : Hid (OBytes w4 Bz v' ((s.data.toList.drop p).reverse) ∧ Below Bz wr w4) := Lib.hid ⟨by
              rw [hst.out]
              unfold OBytes
              rw [List.map_append, List.length_append]
              exact hown3, hbq.grown hgr hbz (fun q hq => own_ge6 hO.out hq)⟩
            clear hown3 hgr3 hnil hgr
            go_wp2
            go_roundw
            case rel => exact ⟨p, by omega, rfl, hrel4.out.1, hrel4.out.2⟩
            case measure => simp [intOf]; try omega
          · obtain rfl : q = 0 := by omega
            have gq : decide ((0 : Int) ≤ (0 : Int) - 1) = false := by decide
            have hcv := Lib.hid (fun W (hW : OBytes W Bz ‹Value› ((s.data.toList.drop 0).reverse)) => obytes_conv hW)
            have hO2 := hO.out
            rw [List.drop_zero] at hO2
            have hcv2 := obytes_conv hO2
            have hmb : (⟨s.data.toList.reverse.toArray⟩ : ByteArray) = mirB s := rfl
            rw [hmb] at hcv2
            have mo := own_cell (o := 0) hMq.out.out rfl
            have mf := own_frozen hMq.out.out 0
            have hlR : R < wq.heap.size := World.block_lt_of_cell? _ _ mo
            have hkl : ((xs.take k).map mirB).length = k := by rw [List.length_map, List.length_take, hl.out]; omega
            have hst := Lib.hid (show ((xs.take (k + 1)).map mirB) = (xs.take k).map mirB ++ [mirB s] by
              obtain ⟨h5, h6⟩ := List.getElem?_eq_some_iff.1 hx.out
              rw [List.take_succ_eq_append_getElem h5, List.map_append, h6]; rfl)
            have hrow := Lib.hid (hMq.out.row)
            rw [hkl] at hrow
            clear hcv
            go_wp2_with (at_builtin; refine wpList_append_own _ rfl _ _ 22 rfl (w.heap.size + 2) 9 i0 _ 1 16 Try.underlying22 hi hz0 hz1 hz2 rfl (by decide) _ _ _ rfl (hrow.out.alloc _) ⟨wq.heap.size, 0, none⟩ 1 1 [.string (mirB s)] rfl rfl ?a1 ?b1 ?c1 ?d1 ?e1 ?_)
            case a1 =>
              intro i u hi
              match i, hi with
              | 0, hi => cases hi; exact cell_new (by simp [Addr.add]) rfl
              | i + 1, hi => simp at hi
            case b1 =>
              intro u hu
              simp only [List.mem_cons, List.not_mem_nil, or_false] at hu
              rcases hu with rfl
              rfl
            case c1 => unfold maxLen; omega
            case d1 => omega
            case e1 => have := hMq.out.far; simp; omega
            intro v' w4 hown3 hgr3 hnil
            have hgr := grown_trans (grown_below (below_a1 wq _) _) hgr3
            have hap := row_apart hMq.out.row hMq.out.out
            have mo4 : w4.heap[R]? = some (.cells #[V] 27 (0, 0)) := (hgr.block R hlR (fun e => hap R e.symm rfl)).trans hMq.out.out
            have mo5 := own_cell (o := 0) mo4 rfl
            have mf5 := own_frozen mo4 0
            have hk2 : ((xs.take (k + 1)).map mirB).length = k + 1 := by rw [List.length_map, List.length_take, hl.out]; omega
            have hrw : w4.ownsRow (w.heap.size + 2) 9 1 v' (k + 1) (((xs.take (k + 1)).map mirB).flatMap strC) := by
              rw [hst.out, str_snoc, List.map_take]
              exact hown3
            clear hnil hown3
            obtain ⟨A5, c5, rfl, _⟩ := str_row hk2 hrw
            have hpush := Lib.hid (hMq.out.push (V' := .slice A5 (k + 1) c5) (l' := (xs.take (k + 1)).map mirB) hgr (by rw [hk2]; exact hrw))
            clear hrw hgr3 hgr hap
            go_wp2
            go_roundw
            case rel => exact ⟨k + 1, _, by omega, by go_num, hpush.out⟩
            case measure => simp [intOf]; omega
      · obtain rfl : k = n := by omega
        have hfin : Hid ((xs.take k).map mirB = r.1) := Lib.hid (by rw [hres.out, List.take_of_length_le (by rw [hl.out]; exact Nat.le_refl _)])
        have hcode : Hid (r.2 = 0) := Lib.hid (by rw [hres.out])
        have hkl : ((xs.take k).map mirB).length = k := by rw [List.length_map, List.length_take, hl.out]; omega
        obtain ⟨A', c', rfl, hO⟩ := str_row hkl (by have := hM.out.row; rwa [hkl] at this)
        rw [hfin.out] at hO
        replace hO := Lib.hid hO
        have mo := own_cell (o := 0) hM.out.out rfl
        have hlR : R < wr.heap.size := World.block_lt_of_cell? _ _ mo
        have mr := hM.out.res
        have mf := hM.out.resF
        have hfar := hM.out.far
        go_wp2
        have rc : (wr.setCell ⟨w.heap.size + 1, 0, none⟩ (.slice A' k c')).cell? ⟨w.heap.size + 1, 0, none⟩ = some (.slice A' k c') := World.cell?_setCell_same _ _ _ mr
        have hbf := Lib.hid (hM.out.bel.setCell (p := ⟨w.heap.size + 1, 0, none⟩) (by simp only; omega) (.slice A' k c'))
        have hOf : Hid (OStrs (wr.setCell ⟨w.heap.size + 1, 0, none⟩ (.slice A' k c')) w.heap.size A' k r.1) := Lib.hid ((hO.out.mono (by omega)).block (fun p hp => Below.heap_setCell _ _ _ _ (by have := hO.out.own p hp; simp only; omega)))
        generalize wr.setCell ⟨w.heap.size + 1, 0, none⟩ (.slice A' k c') = wz at *
        refine bodyPost_ret (v := .tuple #[.agg #[.slice A' k c'], .int .i64 0]) (by simp [results, Try.results42, go_sem, rc]) rfl ?_
        exact ⟨A', k, c', by rw [hcode.out], hn, hOf.out, hbf.out⟩
end Go.Proofs.Yticggclpaalhgaa
