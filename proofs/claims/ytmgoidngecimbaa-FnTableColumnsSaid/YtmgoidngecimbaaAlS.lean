/- Numbers aligned at one column: the model's functions. -/
import Derived.Test.YtmgoidngecimbaaAl0
import Derived.Test.YtmgoidngecimbaaNumS
import Derived.Test.YtmgoidngecimbaaTblS
import Derived.Test.YtmgoidngecimbaaRak8
import Derived.Deep.AppendLies
namespace Go.Proofs.Ytmgoidngecimbaa
open Go.RowKit Go.ChangeShapes Go.WideShapes Go.Deep
set_option linter.unusedVariables false
set_option linter.unusedSimpArgs false

set_option maxRecDepth 100000 in
set_option maxHeartbeats 1600000 in
theorem blanks8_spec (n : Nat) (hn : n ≤ 1000) (w : World) : Calls Try.prog 38 #[.int .i64 (n : Int)] w fun e w' => e = .returned (.string (blanksB n)) ∧ Below w.heap.size w w' := by
  obtain ⟨i0, hi, hz0, hz1, hz2⟩ := info_parts Try.infoU8
  go_enter Try.func38, Try.ntmps38
  go_wp2
  go_loopw [3, 4] (fun v i wr => ∃ (k : Nat) (L : List UInt8), k ≤ n ∧ i = .int .i64 k ∧ L = List.replicate k 32 ∧ L.length = k ∧ Below w.heap.size w wr ∧ OByt8 wr w.heap.size v L) (fun _ i _ => n - (intOf i).toNat)
  case atStart => exact ⟨0, [], by omega, rfl, rfl, rfl, below_a1 _ _, owns_new8u w⟩
  case round =>
    rename World => wr
    obtain ⟨k, L, hk, rfl, hL, hLk, hbw, hrow⟩ := hrel
    have hwz := hbw.size
    replace hL := Lib.hid hL
    have hLb : L.length ≤ 1000 := by omega
    replace hLk := Lib.hid hLk
    by_cases hlt : k < n
    · have hk1 : (k : Int) < (n : Int) := by omega
      have hnx : Hid (L ++ [32] = List.replicate (k + 1) 32) := Lib.hid (by rw [hL.out, ← List.replicate_succ'])
      have hrl := Lib.hid hrow
      clear hrow
      go_wp2_with (at_builtin; refine wpList_append_own _ rfl _ _ 22 rfl w.heap.size 5 i0 _ 1 1 Try.underlying22 hi hz0 hz1 hz2 rfl (by decide) _ _ _ rfl (hrl.out.alloc _) ⟨wr.heap.size, 0, none⟩ 1 1 [.int .u8 32] rfl rfl (news8 _ _ _) (one8u _) (by unfold maxLen; omega) (by omega) (by simp; omega) ?_)
      intro vqq wqq hownqq hgrqq hnilqq
      have hgqqq := grown_trans (grown_below (below_a1 wr _) _) hgrqq
      clear hgrqq hnilqq
      have hq : Hid (wqq.ownsRow w.heap.size 5 1 vqq ((L ++ [32]).length) ((L ++ [32]).map byteU8) ∧ Below w.heap.size w wqq) := Lib.hid ⟨by rw [byt_snoc _ 32 32 rfl, List.length_append]; exact hownqq, hbw.grown hgqqq hwz (fun j hj => owns_ge8 hrl.out hj)⟩
      clear hownqq hgqqq
      clear hrl
      go_wp2
      go_roundw
      case rel => exact ⟨k + 1, L ++ [32], by omega, by go_num, hnx.out, by simp [hLk.out], hq.out.2, hq.out.1⟩
      case measure => simp [intOf]; omega
    · obtain rfl : k = n := by omega
      have hconv := obyt8_conv hrow
      obtain ⟨_, A5, c5', rfl⟩ := obyt8_len hrow
      clear hrow
      go_wp2
      go_ret
      exact ⟨by rw [blanksB, ← hL.out]; rfl, hbw⟩
theorem point8B (s : ByteArray) (hs : s.size ≤ 1048576) {v : Int} (hv : pnI s = v) (w : World) :
    Calls Try.prog 58 #[.string s] w fun e w' => e = .returned (.int .i64 v) ∧ Below w.heap.size w w' := by
  subst hv
  exact (point8 s hs rfl w).mono fun e w' ⟨he, hw⟩ => ⟨he, by subst hw; exact Below.refl _ _⟩
set_option maxRecDepth 100000 in
set_option maxHeartbeats 3200000 in
theorem al_spec (A : Option Addr) (n c : Nat) (l : List ByteArray) (w : World) (h : Strs w A n l) (hn : n ≤ 1048576) (hg : ∀ s ∈ l, strGood s) :
    Calls Try.prog 18 #[.slice A n c] w (TOut (alR l) w) := by
  generalize hr : alR l = r
  replace hr := Lib.hid hr.symm
  have hl := Lib.hid h.1
  have hg0 := Lib.hid hg
  obtain ⟨i0, hi, hz0, hz1, hz2⟩ := info_parts Try.infoStr
  clear hg
  go_enter Try.func18, Try.ntmps18
  go_wp2
  go_loopw [5] (fun i wr => ∃ k : Nat, k ≤ n ∧ i = .int .i64 k ∧ w = wr ∧ l.all shortB = (l.drop k).all shortB) (fun i _ => n - (intOf i).toNat)
  case atStart => exact ⟨0, by omega, rfl, rfl, rfl⟩
  case round =>
    obtain ⟨k, hk, rfl, rfl, he⟩ := hrel
    replace he := Lib.hid he
    by_cases hlt : k < n
    · obtain ⟨b, off, x, rfl, hb, hx, c0⟩ := str_at h hlt
      have hst := Lib.hid (all8_drop (p := shortB) hx.out)
      have hxs := hg0.out x (List.mem_of_getElem? hx.out)
      unfold strGood maxLen at hxs
      have hk0 : (0 : Int) ≤ (k : Int) := Int.natCast_nonneg _
      have hk1 : (k : Int) < (n : Int) := by omega
      by_cases h30 : x.size ≤ 30
      · have g1 : ¬ (30 : Int) < (x.size : Int) := by omega
        have hnx : Hid (l.all shortB = (l.drop (k + 1)).all shortB) := Lib.hid (by rw [he.out, hst.out, shortB, decide_eq_true h30, Bool.true_and])
        go_wp2
        go_roundw
        case rel => exact ⟨k + 1, by omega, by go_num, by trivial, hnx.out⟩
        case measure => simp [intOf]; omega
      · have g1 : (30 : Int) < (x.size : Int) := by omega
        have hbad : Hid (r = ([], 2)) := Lib.hid (by rw [hr.out, alR_2 (.inl (by rw [he.out, hst.out, shortB, decide_eq_false h30, Bool.false_and]))])
        go_wp2
        go_ret2
        exact TOut.bad hbad.out (Below.refl _ _)
    · obtain rfl : k = n := by omega
      have hshort : l.all shortB = true := by rw [he.out, all8_end (by rw [hl.out]; omega)]
      clear he
      by_cases h40 : k ≤ 40
      · have g40 : ¬ (40 : Int) < (k : Int) := by omega
        have hsz := Lib.hid (all_short hshort)
        have hsh := Lib.hid hshort
        have hl40 : Hid (l.length ≤ 40) := Lib.hid (by rw [hl.out]; exact h40)
        have hmr := Lib.hid (fun j => mostP_range (l := l.take j) (fun s hs => all_short hshort s (List.mem_of_mem_take hs)))
        clear hshort hg0
        go_wp2
        go_loopw [4, 6] (fun a i wr => ∃ j : Nat, j ≤ k ∧ i = .int .i64 j ∧ a = .int .i64 (mostP (l.take j)) ∧ Below w.heap.size w wr ∧ l.all numB8 = (l.drop j).all numB8) (fun _ i _ => k - (intOf i).toNat)
        case atStart => exact ⟨0, by omega, rfl, rfl, Below.refl _ _, rfl⟩
        case round =>
          obtain ⟨j, hj, rfl, rfl, hbw, he⟩ := hrel
          replace he := Lib.hid he
          by_cases hlt2 : j < k
          · obtain ⟨b, off, x, rfl, hb, hx, c0⟩ := str_at (h.below hbw) hlt2
            have hst := Lib.hid (all8_drop (p := numB8) hx.out)
            have hxs := hsz.out x (List.mem_of_getElem? hx.out)
            have hj0 : (0 : Int) ≤ (j : Int) := Int.natCast_nonneg _
            have hj1 : (j : Int) < (k : Int) := by omega
            cases h3 : numB8 x with
            | false =>
              have hbad : Hid (r = ([], 7)) := Lib.hid (by rw [hr.out, alR_7 hsh.out hl40.out (by rw [he.out, hst.out, h3]; rfl)])
              have hc := Lib.hid (fun W => number8_spec x (by omega) h3 W)
              clear h3
              go_wp2_with fail
              refine (hc.out _).mono ?_
              rintro e w1 ⟨rfl, hb1⟩
              go_wp2
              go_ret2
              exact TOut.bad hbad.out (hbw.step hb1)
            | true =>
              have hnx : Hid (l.all numB8 = (l.drop (j + 1)).all numB8) := Lib.hid (by rw [he.out, hst.out, h3, Bool.true_and])
              have hc := Lib.hid (fun W => number8_spec x (by omega) h3 W)
              have hmn := Lib.hid (mostP_snoc hx.out)
              obtain ⟨y, hy⟩ : ∃ y, pnI x = y := ⟨_, rfl⟩
              rw [hy] at hmn
              have hp := Lib.hid (fun W => point8B x (by omega) hy W)
              obtain ⟨z, hz⟩ : ∃ z, max (mostP (l.take j)) y = z := ⟨_, rfl⟩
              rw [hz] at hmn
              have hm := Lib.hid (fun W => max8_spec hz W)
              have hwb := World.block_lt_of_cell? _ _ c0
              clear h3 hy hz
              generalize mostP (l.take j) = a at *
              go_wp2_with fail
              refine (hc.out _).mono ?_
              rintro e w1 ⟨rfl, hb1⟩
              have c1 := (hb1.cell (p := ⟨b, off + j, none⟩) hwb).trans c0
              go_wp2_with fail
              refine (hp.out _).mono ?_
              rintro e w2 ⟨rfl, hb2⟩
              go_wp2_with fail
              refine (hm.out _).mono ?_
              rintro e w3 ⟨rfl, rfl⟩
              go_wp2
              go_roundw
              case rel => exact ⟨j + 1, by omega, by go_num, by rw [hmn.out], (hbw.step hb1).step hb2, hnx.out⟩
              case measure => simp [intOf]; omega
          · obtain rfl : j = k := by omega
            have hall : l.take j = l := List.take_of_length_le (by rw [hl.out]; omega)
            rw [hall]
            have hnum : l.all numB8 = true := by rw [he.out, all8_end (by rw [hl.out]; omega)]
            have hgood := Lib.hid (hr.out.trans (alR_0 hsh.out hl40.out hnum))
            have hcode : Hid (r.2 = 0) := Lib.hid (by rw [hgood.out])
            have hmr2 := hmr.out j
            rw [hall] at hmr2
            obtain ⟨m0, m30, hmx⟩ := hmr2
            replace hmx := Lib.hid hmx
            clear hnum hall hr hmr he hl40 hsh
            generalize mostP l = M at *
            rename World => wp
            have hS := h.below hbw
            replace hbw := Lib.hid hbw
            go_wp2
            go_loopw [7, 8] (fun v i wr => ∃ q : Nat, q ≤ j ∧ i = .int .i64 q ∧ Below wp.heap.size wp wr ∧ wr.ownsRow wp.heap.size 9 1 v q (((l.take q).map (padS M)).flatMap strC)) (fun _ i _ => j - (intOf i).toNat)
            case atStart => exact ⟨0, by omega, rfl, below_a1 _ _, owns_new8 wp _⟩
            case round =>
              rename World => wr
              obtain ⟨q, hq, rfl, hbo, hrow⟩ := hrel
              by_cases hlt3 : q < j
              · obtain ⟨b, off, x, rfl, hb, hx, c0⟩ := str_at (hS.below hbo) hlt3
                have hxs := hsz.out x (List.mem_of_getElem? hx.out)
                have hpr := pnI_range hxs
                have hpm := hmx.out x (List.mem_of_getElem? hx.out)
                have hnx : Hid (((l.take (q + 1)).map (padS M)).flatMap strC = ((l.take q).map (padS M)).flatMap strC ++ [.string (padS M x)]) := Lib.hid (by rw [take8 hx.out, List.map_append, List.flatMap_append]; rfl)
                have hpad : padS M x = blanksB (M - pnI x).toNat ++ x := rfl
                obtain ⟨y, hy⟩ : ∃ y, pnI x = y := ⟨_, rfl⟩
                rw [hy] at hpr hpm hpad
                have hpt := Lib.hid (fun W => point8B x (by omega) hy W)
                obtain ⟨d, hd⟩ : ∃ d : Nat, M - y = (d : Int) := ⟨(M - y).toNat, by omega⟩
                rw [hd, Int.toNat_natCast] at hpad
                have hw0 : IntKind.i64.wrap (M - y) = (d : Int) := by rw [hd]; exact IntWalk.i64_in _ (by omega)
                have hd30 : d ≤ 30 := by omega
                have hbl := Lib.hid (fun W => blanks8_spec d (by omega) W)
                replace hpad := Lib.hid hpad
                have hq0 : (0 : Int) ≤ (q : Int) := Int.natCast_nonneg _
                have hq1 : (q : Int) < (j : Int) := by omega
                have hwz := hbo.size
                have hbk : b < wp.heap.size := by obtain ⟨b2, o2, x2, e2, hb2, _⟩ := str_at hS hlt3; cases e2; exact hb2
                obtain ⟨A5, c5, rfl⟩ := owns_form8 hrow
                have hrl := Lib.hid hrow
                clear hy hrow hpr hpm hd
                have hcat : ¬ 9223372036854775807 < (blanksB d).size + x.size := by
                  have : (blanksB d).size = d := by simp [blanksB, ByteArray.size]
                  omega
                generalize blanksB d = BL at *
                go_wp2_with fail
                refine wp_region_held_drew (S := fun w' => w'.cell? ⟨b, off + q, none⟩ = some (.string x)) (by kernel_rfl) ?_ (fun hHeld => ?_)
                · exact c0
                refine wpAnyH_take (i := 0) (v := ?vg0) rfl (by kernel_rfl) (by kernel_rfl) (by kernel_rfl) (fun _ _ _ h => h) (Or.inl ⟨rfl, ?yg0⟩) (by assumption) ?_
                case yg0 => (intro w hSw; (try dsimp only at hSw); go_simp; first | done | with_reducible rfl)
                simp only [List.getElem_toArray, List.getElem_cons_succ, List.getElem_cons_zero, Act.put, List.setIfInBounds_toArray, List.set_cons_zero, List.set_cons_succ]
                refine wpAnyH_take (i := 1) (v := ?vg1) rfl (by kernel_rfl) (by kernel_rfl) (by kernel_rfl) (fun _ _ _ h => h) (Or.inl ⟨rfl, ?yg1⟩) (by assumption) ?_
                case yg1 => (intro w hSw; (try dsimp only at hSw); go_simp; first | done | with_reducible rfl)
                simp only [List.getElem_toArray, List.getElem_cons_succ, List.getElem_cons_zero, Act.put, List.setIfInBounds_toArray, List.set_cons_zero, List.set_cons_succ]
                refine wpAnyH_take (i := 2) (v := ?vg2) rfl (by kernel_rfl) (by kernel_rfl) (by kernel_rfl) (fun _ _ _ h => h) (Or.inl ⟨rfl, ?yg2⟩) (by assumption) ?_
                case yg2 => (intro w hSw; (try dsimp only at hSw); go_simp; first | done | with_reducible rfl)
                simp only [List.getElem_toArray, List.getElem_cons_succ, List.getElem_cons_zero, Act.put, List.setIfInBounds_toArray, List.set_cons_zero, List.set_cons_succ]
                refine wpAnyH_take (i := 3) (v := ?vg3) rfl (by kernel_rfl) (by kernel_rfl) (by kernel_rfl) (fun _ _ _ h => h) (Or.inl ⟨rfl, ?yg3⟩) (by assumption) ?_
                case yg3 => (intro w hSw; (try dsimp only at hSw); go_simp; first | done | with_reducible rfl)
                simp only [List.getElem_toArray, List.getElem_cons_succ, List.getElem_cons_zero, Act.put, List.setIfInBounds_toArray, List.set_cons_zero, List.set_cons_succ]
                refine wpAnyH_take (i := 4) (v := ?vg4) rfl (by kernel_rfl) (by kernel_rfl) (by kernel_rfl) (fun _ _ _ h => h) (Or.inl ⟨rfl, ?yg4⟩) (by assumption) ?_
                case yg4 => (intro w hSw; (try dsimp only at hSw); go_simp; first | done | with_reducible rfl)
                simp only [List.getElem_toArray, List.getElem_cons_succ, List.getElem_cons_zero, Act.put, List.setIfInBounds_toArray, List.set_cons_zero, List.set_cons_succ]
                refine wpAnyH_take (i := 5) (v := ?vg5) rfl (by kernel_rfl) (by kernel_rfl) (by kernel_rfl) (fun _ _ _ h => h) (Or.inl ⟨rfl, ?yg5⟩) (by assumption) ?_
                case yg5 => (intro w hSw; (try dsimp only at hSw); go_simp; first | done | with_reducible rfl)
                simp only [List.getElem_toArray, List.getElem_cons_succ, List.getElem_cons_zero, Act.put, List.setIfInBounds_toArray, List.set_cons_zero, List.set_cons_succ]
                refine wpAnyH_take (i := 9) (v := ?vg9) rfl (by kernel_rfl) (by kernel_rfl) (by kernel_rfl) (fun _ _ _ h => h) (Or.inl ⟨rfl, ?yg9⟩) (by assumption) ?_
                case yg9 => (intro w hSw; (try dsimp only at hSw); go_simp; first | done | with_reducible rfl)
                simp only [List.getElem_toArray, List.getElem_cons_succ, List.getElem_cons_zero, Act.put, List.setIfInBounds_toArray, List.set_cons_zero, List.set_cons_succ]
                refine wpAnyH_take (i := 10) (v := ?vg10) rfl (by kernel_rfl) (by kernel_rfl) (by kernel_rfl) (fun _ _ _ h => h) (Or.inl ⟨rfl, ?yg10⟩) (by assumption) ?_
                case yg10 => (intro w hSw; (try dsimp only at hSw); go_simp; first | done | with_reducible rfl)
                simp only [List.getElem_toArray, List.getElem_cons_succ, List.getElem_cons_zero, Act.put, List.setIfInBounds_toArray, List.set_cons_zero, List.set_cons_succ]
                refine wpAnyH_take (i := 11) (v := ?vg11) rfl (by kernel_rfl) (by kernel_rfl) (by kernel_rfl) (fun _ _ _ h => h) (Or.inl ⟨rfl, ?yg11⟩) (by assumption) ?_
                case yg11 => (intro w hSw; (try dsimp only at hSw); go_simp; first | done | with_reducible rfl)
                simp only [List.getElem_toArray, List.getElem_cons_succ, List.getElem_cons_zero, Act.put, List.setIfInBounds_toArray, List.set_cons_zero, List.set_cons_succ]
                refine wpAnyH_take (i := 12) (v := ?vg12) rfl (by kernel_rfl) (by kernel_rfl) (by kernel_rfl) (fun _ _ _ h => h) (Or.inl ⟨rfl, ?yg12⟩) (by assumption) ?_
                case yg12 => (intro w hSw; (try dsimp only at hSw); go_simp; first | done | with_reducible rfl)
                simp only [List.getElem_toArray, List.getElem_cons_succ, List.getElem_cons_zero, Act.put, List.setIfInBounds_toArray, List.set_cons_zero, List.set_cons_succ]
                refine wpAnyH_ready (rs := [6]) (by kernel_rfl) (by simp) ?_
                refine AllReadyH.cons rfl (fun K hK => ?_) AllReadyH.nil
                go_simp
                refine (hpt.out _).mono ?_
                rintro e w6 ⟨rfl, hb6⟩
                have hb6d := ((Below.refl _ wr).drew).step hb6
                go_wp2_with fail
                refine hK.out _ _ ?_ (fun hHeld => ?_)
                · exact cell_step hHeld hb6
                clear hK K
                try simp only [List.getElem_toArray, List.getElem_cons_succ, List.getElem_cons_zero, Act.put, List.setIfInBounds_toArray, List.set_cons_zero, List.set_cons_succ]
                refine wpAnyH_take (i := 7) (v := ?vg7) rfl (by kernel_rfl) (by kernel_rfl) (by kernel_rfl) (fun _ _ _ h => h) (Or.inl ⟨rfl, ?yg7⟩) (by assumption) ?_
                case yg7 => (intro w hSw; (try dsimp only at hSw); go_simp; first | done | with_reducible rfl)
                simp only [List.getElem_toArray, List.getElem_cons_succ, List.getElem_cons_zero, Act.put, List.setIfInBounds_toArray, List.set_cons_zero, List.set_cons_succ]
                refine wpAnyH_ready (rs := [8]) (by kernel_rfl) (by simp) ?_
                refine AllReadyH.cons rfl (fun K hK => ?_) AllReadyH.nil
                go_simp
                refine (hbl.out _).mono ?_
                rintro e w7 ⟨rfl, hb7⟩
                go_wp2_with fail
                refine hK.out _ _ ?_ (fun hHeld => ?_)
                · exact cell_step hHeld hb7
                clear hK K
                try simp only [List.getElem_toArray, List.getElem_cons_succ, List.getElem_cons_zero, Act.put, List.setIfInBounds_toArray, List.set_cons_zero, List.set_cons_succ]
                refine wpAnyH_take (i := 13) (v := ?vg13) rfl (by kernel_rfl) (by kernel_rfl) (by kernel_rfl) (fun _ _ _ h => h) (Or.inl ⟨rfl, ?yg13⟩) (by assumption) ?_
                case yg13 => (intro w hSw; (try dsimp only at hSw); go_simp; first | done | with_reducible rfl)
                simp only [List.getElem_toArray, List.getElem_cons_succ, List.getElem_cons_zero, Act.put, List.setIfInBounds_toArray, List.set_cons_zero, List.set_cons_succ]
                have hb67 := hb6d.step hb7
                have hrk := Lib.hid (owns_keep8 hrl.out hb67)
                have hwk := hb67.size
                have hcp := (hbo.cell (p := ⟨b, off + q, none⟩) hbk).symm.trans c0
                clear hrl hb6 hb7 hb6d
                refine wpAnyH_ready (rs := [14]) (by kernel_rfl) (by simp) ?_
                refine AllReadyH.cons rfl (fun K hK => ?_) AllReadyH.nil
                go_simp
                refine hK.out _ _ ?_ (fun hHeld => ?_)
                · exact cell_on hHeld _
                clear hK K
                try simp only [List.getElem_toArray, List.getElem_cons_succ, List.getElem_cons_zero, Act.put, List.setIfInBounds_toArray, List.set_cons_zero, List.set_cons_succ]
                refine wpAnyH_ready (rs := [15]) (by kernel_rfl) (by simp) ?_
                refine AllReadyH.cons rfl (fun K hK => ?_) AllReadyH.nil
                refine step_append_lies _ rfl (.tmp 50) (.tmp 64) 27 rfl wp.heap.size 9 i0 _ 1 16 Try.underlying27 hi hz0 hz1 hz2 rfl (by decide) (.slice A5 q c5) q (((l.take q).map (padS M)).flatMap strC) rfl (hrk.out.alloc _) ⟨w7.heap.size, 0, none⟩ 1 1 [.string (BL ++ x)] rfl rfl (news8 _ _ _) (one8s _) (by decide) (by unfold maxLen; omega) (by omega) (by simp [World.drew]; omega) _ rfl (fun g cap w5 ho5 hg5 _ hlt5 => ?_)
                have hA5 : ∀ k2, (Value.slice A5 q c5).ownBlock = some k2 → wp.heap.size ≤ k2 := fun k2 hk2 => owns_ge8 hrk.out hk2
                have hb5 : Hid (Below wp.heap.size wp w5) := Lib.hid (Below.grown ((below_step8 hbo hb67 hwz).alloc (by omega) _) hg5 (by simp; omega) hA5)
                have hrow5 : Hid (w5.ownsRow wp.heap.size 9 1 (.slice (some ⟨g, 0, none⟩) (q + 1) cap) (q + 1) (((l.take (q + 1)).map (padS M)).flatMap strC)) := Lib.hid (by rw [hnx.out, hpad.out]; exact ho5)
                refine hK.out _ _ ((hb5.out.cell (p := ⟨b, off + q, none⟩) hbk).trans hcp) (fun hHeld5 => ?_)
                clear hK K hA5 hg5 ho5
                try simp only [List.getElem_toArray, List.getElem_cons_succ, List.getElem_cons_zero, Act.put, List.setIfInBounds_toArray, List.set_cons_zero, List.set_cons_succ]
                refine wpAnyH_take (i := 16) (v := ?vz16) rfl (by kernel_rfl) (by kernel_rfl) (by kernel_rfl) (fun _ _ _ h => h) (Or.inl ⟨rfl, ?yz16⟩) (by assumption) ?_
                case yz16 => (intro w hSw; (try dsimp only at hSw); go_simp; first | done | with_reducible rfl)
                simp only [List.getElem_toArray, List.getElem_cons_succ, List.getElem_cons_zero, Act.put, List.setIfInBounds_toArray, List.set_cons_zero, List.set_cons_succ]
                refine wpAnyH_done (by kernel_rfl) ?_ _
                go_wp2
                go_roundw
                case rel => exact ⟨q + 1, by omega, by go_num, hb5.out, hrow5.out⟩
                case measure => simp [intOf]; omega
              · obtain rfl : q = j := by omega
                have hall2 : ((l.take q).map (padS M)) = l.map (padS M) := by rw [List.take_of_length_le (by rw [hl.out]; omega)]
                rw [hall2] at hrow
                obtain ⟨A', c', rfl, hO⟩ := owns_s8 (by rw [List.length_map, hl.out]) hrow
                have hO2 := Lib.hid hO
                clear hO hrow
                go_wp2
                go_ret2
                exact ⟨A', q, c', by rw [hcode.out]; rfl, by omega, by rw [hgood.out]; exact hO2.out.mono hbw.out.size, hbw.out.step hbo⟩
      · have g40 : (40 : Int) < (k : Int) := by omega
        have hbad : Hid (r = ([], 2)) := Lib.hid (by rw [hr.out, alR_2 (.inr (by rw [hl.out]; exact h40))])
        go_wp2
        go_ret2
        exact TOut.bad hbad.out (Below.refl _ _)
end Go.Proofs.Ytmgoidngecimbaa
