/- Centring: the model's title page. -/
import Derived.Test.YtalmpiffjghhkaaDoorCen3
namespace Go.Proofs.YtalmpiffjghhkaaDoor
open Go.RowKit Go.ChangeShapes Go.WideShapes Go.Deep
set_option linter.unusedVariables false
set_option linter.unusedSimpArgs false

def fitW (wd : Int) (x : ByteArray) : Bool := decide ((x.size : Int) ≤ wd)
def tpE (wd : Int) (x : ByteArray) : ByteArray := repB 32 ((wd - (x.size : Int)).toNat / 2) ++ x
def tpL (n : Nat) (ls : List ByteArray) (wd ht : Int) : List ByteArray :=
  List.replicate ((ht - (n : Int)).toNat / 2) ByteArray.empty ++ ls.map (tpE wd) ++ List.replicate (ht.toNat - (ht - (n : Int)).toNat / 2 - n) ByteArray.empty
def tpR (ls : List ByteArray) (wd ht : Int) : List ByteArray × Int :=
  if (ls.all settB && (decide ((ls.length : Int) ≤ 30) && (inR wd 1 100 && inR ht 1 30))) = true then (if (ls.all (fitW wd) && decide ((ls.length : Int) ≤ ht)) = true then (tpL ls.length ls wd ht, 0) else ([], 5)) else ([], 2)
def lenV : Value → Nat
  | .slice _ n _ => n
  | _ => 0
theorem snoc_p {P : List ByteArray} {g : ByteArray → ByteArray} {ls : List ByteArray} {k : Nat} {x : ByteArray} (h : ls[k]? = some x) : (P ++ (ls.take (k + 1)).map g).flatMap strC = (P ++ (ls.take k).map g).flatMap strC ++ [.string (g x)] := by
  rw [take8 h, List.map_append, ← List.append_assoc, List.flatMap_append]; rfl
theorem snoc_r (P : List ByteArray) (j : Nat) : (P ++ List.replicate (j + 1) ByteArray.empty).flatMap strC = (P ++ List.replicate j ByteArray.empty).flatMap strC ++ [.string ByteArray.empty] := by
  rw [List.replicate_succ', ← List.append_assoc, List.flatMap_append]; rfl
theorem snoc_r0 (j : Nat) : (List.replicate (j + 1) ByteArray.empty).flatMap strC = (List.replicate j ByteArray.empty).flatMap strC ++ [.string ByteArray.empty] := by
  rw [List.replicate_succ', List.flatMap_append]; rfl
set_option maxRecDepth 100000 in
set_option maxHeartbeats 2400000 in
theorem tp10_specC (A : Option Addr) (n c : Nat) (ls : List ByteArray) (wd ht : Int) (w : World) (h : Strs w A n ls) (hn : n ≤ 1048576) (hg : ∀ x ∈ ls, x.size ≤ maxLen) :
    Calls Tryd.prog 26 #[.slice A n c, .int .i64 wd, .int .i64 ht] w (TOut (tpR ls wd ht) w) := by
  have hl := Lib.hid h.1
  generalize hv : tpR ls wd ht = res
  have hres : Hid (res = if (ls.all settB && (decide ((n : Int) ≤ 30) && (inR wd 1 100 && inR ht 1 30))) = true then (if (ls.all (fitW wd) && decide ((n : Int) ≤ ht)) = true then (tpL n ls wd ht, 0) else ([], 5)) else ([], 2)) := Lib.hid (by rw [← hv, tpR, hl.out])
  have hg0 := Lib.hid hg
  clear hv hg
  go_enter Tryd.func26, Tryd.ntmps26
  go_wp2
  go_loopw [8] (fun i wr => ∃ k : Nat, k ≤ n ∧ i = .int .i64 k ∧ w = wr ∧ ls.all settB = (ls.drop k).all settB) (fun i _ => n - (intOf i).toNat)
  case atStart => exact ⟨0, by omega, rfl, rfl, rfl⟩
  case round =>
    obtain ⟨k, hk, rfl, rfl, he⟩ := hrel
    replace he := Lib.hid he
    by_cases hlt : k < n
    · obtain ⟨b, off, x, rfl, hb, hx, c0⟩ := str_at h hlt
      have hst := Lib.hid (all8_drop (p := settB) hx.out)
      have hxs := hg0.out x (List.mem_of_getElem? hx.out)
      cases h1 : settB x with
      | false =>
        have hr : Hid (res = ([], 2)) := Lib.hid (by rw [hres.out, he.out, hst.out, h1]; rfl)
        have hj := Lib.hid (fun W => text10 x h1 W hxs)
        clear h1
        go_wp2_with fail
        refine (hj.out _).mono ?_
        rintro e w' ⟨rfl, rfl⟩
        go_wp2
        go_ret2
        exact TOut.bad hr.out (Below.refl _ _)
      | true =>
        have hnext : Hid (ls.all settB = (ls.drop (k + 1)).all settB) := Lib.hid (by rw [he.out, hst.out, h1]; rfl)
        have hj := Lib.hid (fun W => text10 x h1 W hxs)
        clear h1
        go_wp2_with fail
        refine (hj.out _).mono ?_
        rintro e w' ⟨rfl, rfl⟩
        go_wp2
        go_roundw
        case rel => exact ⟨k + 1, by omega, by go_num, by trivial, hnext.out⟩
        case measure => simp [intOf]; omega
    · obtain rfl : n = k := by omega
      have g00 : ¬ (n : Int) < (n : Int) := by omega
      have ha : ls.all settB = true := by rw [he.out]; exact all8_end (by rw [hl.out]; exact Nat.le_refl _)
      have hxs : Hid (∀ x ∈ ls, x.size ≤ 100) := Lib.hid fun x hx => settB_size (List.all_eq_true.1 ha x hx)
      rw [ha, Bool.true_and] at hres
      clear he ha hg0 hk hlt
      by_cases c1 : (n : Int) ≤ 30
      · have p1 : ¬ (30 : Int) < (n : Int) := by omega
        have p1' : n ≤ 30 := by omega
        rw [decide_eq_true c1, Bool.true_and] at hres
        clear c1
        cases c2 : inR wd 1 100 with
        | false =>
          have hr : Hid (res = ([], 2)) := Lib.hid (by rw [hres.out, c2]; rfl)
          have hc2 := Lib.hid (fun W => in8_spec c2 W)
          clear c2 hres
          go_wp2_with fail
          refine (hc2.out _).mono ?_
          rintro e w' ⟨rfl, rfl⟩
          go_wp2
          go_ret2
          exact TOut.bad hr.out (Below.refl _ _)
        | true =>
          have hc2 := Lib.hid (fun W => in8_spec c2 W)
          cases c3 : inR ht 1 30 with
          | false =>
            have hr : Hid (res = ([], 2)) := Lib.hid (by rw [hres.out, c2, c3]; rfl)
            have hc3 := Lib.hid (fun W => in8_spec c3 W)
            clear c2 c3 hres
            go_wp2_with fail
            refine (hc2.out _).mono ?_
            rintro e w' ⟨rfl, rfl⟩
            go_wp2_with fail
            refine (hc3.out _).mono ?_
            rintro e w' ⟨rfl, rfl⟩
            go_wp2
            go_ret2
            exact TOut.bad hr.out (Below.refl _ _)
          | true =>
            have hc3 := Lib.hid (fun W => in8_spec c3 W)
            rw [c2, c3, Bool.true_and, if_pos rfl] at hres
            obtain ⟨d1, d2⟩ : 1 ≤ wd ∧ wd ≤ 100 := by simpa [inR] using c2
            obtain ⟨d3, d4⟩ : 1 ≤ ht ∧ ht ≤ 30 := by simpa [inR] using c3
            obtain ⟨W, rfl⟩ : ∃ W : Nat, wd = (W : Int) := ⟨wd.toNat, by omega⟩
            obtain ⟨H, rfl⟩ : ∃ H : Nat, ht = (H : Int) := ⟨ht.toNat, by omega⟩
            replace d1 : 1 ≤ W := by omega
            replace d2 : W ≤ 100 := by omega
            replace d3 : 1 ≤ H := by omega
            replace d4 : H ≤ 30 := by omega
            clear c2 c3
            go_wp2_with fail
            refine (hc2.out _).mono ?_
            rintro e w' ⟨rfl, rfl⟩
            go_wp2_with fail
            refine (hc3.out _).mono ?_
            rintro e w' ⟨rfl, rfl⟩
            clear hc2 hc3
            go_wp2
            go_loopw [9] (fun i wr => ∃ k : Nat, k ≤ n ∧ i = .int .i64 k ∧ w = wr ∧ ls.all (fitW (W : Int)) = (ls.drop k).all (fitW (W : Int))) (fun i _ => n - (intOf i).toNat)
            case atStart => exact ⟨0, by omega, rfl, rfl, rfl⟩
            case round =>
              obtain ⟨k, hk, rfl, rfl, he⟩ := hrel
              replace he := Lib.hid he
              by_cases hlt : k < n
              · obtain ⟨b, off, x, rfl, hb, hx, c0⟩ := str_at h hlt
                have hst := Lib.hid (all8_drop (p := fitW (W : Int)) hx.out)
                have hx1 := hxs.out x (List.mem_of_getElem? hx.out)
                by_cases h5 : x.size ≤ W
                · have hnext : Hid (ls.all (fitW (W : Int)) = (ls.drop (k + 1)).all (fitW (W : Int))) := Lib.hid (by rw [he.out, hst.out, fitW, decide_eq_true (by omega), Bool.true_and])
                  have g1 : decide ((W : Int) < (x.size : Int)) = false := decide_eq_false (by omega)
                  have g2 : decide (W < x.size) = false := decide_eq_false (by omega)
                  go_wp2
                  go_roundw
                  case rel => exact ⟨k + 1, by omega, by go_num, by trivial, hnext.out⟩
                  case measure => simp [intOf]; omega
                · have hr : Hid (res = ([], 5)) := Lib.hid (by rw [hres.out, he.out, hst.out, fitW, decide_eq_false (by omega)]; rfl)
                  have g1 : decide ((W : Int) < (x.size : Int)) = true := decide_eq_true (by omega)
                  have g2 : decide (W < x.size) = true := decide_eq_true (by omega)
                  go_wp2
                  go_ret2
                  exact TOut.bad hr.out (Below.refl _ _)
              · obtain rfl : n = k := by omega
                have ha : ls.all (fitW (W : Int)) = true := by rw [he.out]; exact all8_end (by rw [hl.out]; exact Nat.le_refl _)
                have hfit : Hid (∀ x ∈ ls, x.size ≤ W) := Lib.hid fun x hx => by
                  have := List.all_eq_true.1 ha x hx
                  simp only [fitW, decide_eq_true_eq] at this
                  omega
                rw [ha, Bool.true_and] at hres
                clear he ha hk hlt
                by_cases h6 : n ≤ H
                · have g1 : decide ((H : Int) < (n : Int)) = false := decide_eq_false (by omega)
                  have g2 : decide (H < n) = false := decide_eq_false (by omega)
                  rw [decide_eq_true (by omega), if_pos rfl] at hres
                  obtain ⟨d, hd⟩ : ∃ d, ((H : Int) - (n : Int)).toNat = d := ⟨_, rfl⟩
                  have hd0 : H = n + d := by omega
                  have hw1 : IntKind.i64.wrap ((H : Int) - (n : Int)) = (d : Int) := by rw [IntWalk.i64_in _ (by omega)]; omega
                  have he0 : d / 2 ≤ d := Nat.div_le_self _ _
                  have hq2 := quo2 d
                  rw [tpL, hd, Int.toNat_natCast] at hres
                  obtain ⟨e, he⟩ : ∃ e, d / 2 = e := ⟨_, rfl⟩
                  rw [he] at hq2 he0 hres
                  have hwe : IntKind.i64.wrap (e : Int) = (e : Int) := IntWalk.i64_in _ (by omega)
                  replace hd := Lib.hid hd
                  replace he := Lib.hid he
                  have hd1 := Lib.hid hd0
                  clear hd0
                  obtain ⟨i0, hi, hz0, hz1, hz2⟩ := info_parts Tryd.infoStr
                  have hnh : e + n ≤ H := by have := hd1.out; omega
                  go_wp2
                  go_loopw [10, 11] (fun v i wr => ∃ r j : Nat, j + r = e ∧ i = .int .i64 (r : Int) ∧ Below w.heap.size w wr ∧ wr.ownsRow w.heap.size 9 1 v j ((List.replicate j ByteArray.empty).flatMap strC)) (fun _ i _ => (intOf i).toNat)
                  case atStart => exact ⟨e, 0, by omega, rfl, below_a1 _ _, owns_new8 _ _⟩
                  case round =>
                    rename World => wr
                    obtain ⟨r, j, hj, rfl, hbw, hrow⟩ := hrel
                    have hwz := hbw.size
                    by_cases hlt : 0 < r
                    · have k1 : (0 : Int) < (r : Int) := by omega
                      obtain ⟨r2, hr2⟩ : ∃ r2, r = r2 + 1 := ⟨r - 1, by omega⟩
                      have hwr : IntKind.i64.wrap ((r : Int) - 1) = (r2 : Int) := by rw [IntWalk.i64_in _ (by omega)]; omega
                      have hrl := Lib.hid hrow
                      replace hr2 := Lib.hid hr2
                      have j30 : j ≤ 30 := by omega
                      clear hrow
                      go_wp2_with (at_builtin; refine wpList_append_own _ rfl _ _ 31 rfl w.heap.size 9 i0 _ 1 16 Tryd.underlying31 hi hz0 hz1 hz2 rfl (by decide) _ _ _ rfl (hrl.out.alloc _) ⟨wr.heap.size, 0, none⟩ 1 1 [.string ByteArray.empty] rfl rfl (news8 _ _ _) (one8s _) (by unfold maxLen; omega) (by omega) (by simp; omega) ?_)
                      intro vqq wqq hownqq hgrqq hnilqq
                      have hgqqq := grown_trans (grown_below (below_a1 wr _) _) hgrqq
                      clear hgrqq hnilqq
                      have hq : Hid (wqq.ownsRow w.heap.size 9 1 vqq (j + 1) ((List.replicate (j + 1) ByteArray.empty).flatMap strC) ∧ Below w.heap.size w wqq) := Lib.hid ⟨by rw [snoc_r0]; exact hownqq, hbw.grown hgqqq hwz (fun j hj => owns_ge8 hrl.out hj)⟩
                      clear hownqq hgqqq
                      clear hrl
                      go_wp2
                      go_roundw
                      case rel => exact ⟨r2, j + 1, by have := hr2.out; omega, by go_num, hq.out.2, hq.out.1⟩
                      case measure => have := hr2.out; simp [intOf]; omega
                    · have hrz : (r : Int) = 0 := by omega
                      rw [hrz]
                      have k2 : ¬ (0 : Int) < 0 := by omega
                      obtain rfl : e = j := by omega
                      clear hrz
                      have hPl : Hid ((List.replicate e ByteArray.empty).length = e) := Lib.hid List.length_replicate
                      generalize List.replicate e ByteArray.empty = PP at hrow hres hPl
                      have hr0 := Lib.hid hrow
                      have hbw0 := Lib.hid hbw
                      clear hrow hbw hj hwz
                      go_wp2
                      go_loopw [10, 12] (fun v i wr => ∃ k : Nat, k ≤ n ∧ i = .int .i64 (k : Int) ∧ Below w.heap.size w wr ∧ wr.ownsRow w.heap.size 9 1 v (e + k) ((PP ++ (ls.take k).map (tpE (W : Int))).flatMap strC)) (fun _ i _ => n - (intOf i).toNat)
                      case atStart => exact ⟨0, by omega, rfl, hbw0.out, by rw [List.take_zero, List.map_nil, List.append_nil]; exact hr0.out⟩
                      case round =>
                        rename World => wr
                        clear hr0 hbw0
                        obtain ⟨k, hk, rfl, hbw, hrow⟩ := hrel
                        have hwz := hbw.size
                        by_cases hlt : k < n
                        · obtain ⟨b, off, x, rfl, hgl, hx, c00⟩ := str_at h hlt
                          have c1 := cell_step c00 hbw
                          have hxz := hfit.out x (List.mem_of_getElem? hx.out)
                          have hsn := Lib.hid (snoc_p (P := PP) (g := tpE (W : Int)) hx.out)
                          rw [tpE] at hsn
                          obtain ⟨d5, hd5⟩ : ∃ d5, ((W : Int) - (x.size : Int)).toNat = d5 := ⟨_, rfl⟩
                          have hw2 : IntKind.i64.wrap ((W : Int) - (x.size : Int)) = (d5 : Int) := by rw [IntWalk.i64_in _ (by omega)]; omega
                          have he5 : d5 / 2 ≤ d5 := Nat.div_le_self _ _
                          have hq5 := quo2 d5
                          rw [hd5] at hsn
                          obtain ⟨e5, he6⟩ : ∃ e5, d5 / 2 = e5 := ⟨_, rfl⟩
                          rw [he6] at hq5 he5 hsn
                          have hwe5 : IntKind.i64.wrap (e5 : Int) = (e5 : Int) := IntWalk.i64_in _ (by omega)
                          have hbl := Lib.hid (fun W' => blanks10 e5 (by omega) W')
                          have hbs := repB_size 32 e5
                          have hbs2 : (repB 32 e5).size ≤ 100 := by omega
                          replace hd5 := Lib.hid hd5
                          replace he6 := Lib.hid he6
                          clear hbs
                          generalize repB 32 e5 = BB at *
                          have hcat : ¬ 9223372036854775807 < BB.size + x.size := by omega
                          have hk0' : (0 : Int) ≤ (k : Int) := Int.natCast_nonneg _
                          have hkm : (k : Int) < (n : Int) := by omega
                          obtain ⟨A5, c5, rfl⟩ := owns_form8 hrow
                          have hrl := Lib.hid hrow
                          replace c00 := Lib.hid c00
                          clear hrow
                          go_wp2_with fail
                          refine wp_region_held_drew (S := fun w' => Below w.heap.size w w' ∧ w'.cell? ⟨b, off + k, none⟩ = some (.string x)) (by kernel_rfl) ?_ (fun hHeld => ?_)
                          · exact ⟨hbw.drew, c1⟩
                          refine wpAnyH_take (i := 0) (v := ?vpU1_0) rfl (by kernel_rfl) (by kernel_rfl) (by kernel_rfl) (fun _ _ _ h => h) (Or.inl ⟨rfl, ?ypU1_0⟩) (by assumption) ?_
                          case ypU1_0 => (intro w hSw; (try dsimp only at hSw); go_simp; first | done | with_reducible rfl)
                          simp only [List.getElem_toArray, List.getElem_cons_succ, List.getElem_cons_zero, Act.put, List.setIfInBounds_toArray, List.set_cons_zero, List.set_cons_succ]
                          refine wpAnyH_take (i := 1) (v := ?vpU1_1) rfl (by kernel_rfl) (by kernel_rfl) (by kernel_rfl) (fun _ _ _ h => h) (Or.inl ⟨rfl, ?ypU1_1⟩) (by assumption) ?_
                          case ypU1_1 => (intro w hSw; (try dsimp only at hSw); go_simp; first | done | with_reducible rfl)
                          simp only [List.getElem_toArray, List.getElem_cons_succ, List.getElem_cons_zero, Act.put, List.setIfInBounds_toArray, List.set_cons_zero, List.set_cons_succ]
                          refine wpAnyH_take (i := 2) (v := ?vpU1_2) rfl (by kernel_rfl) (by kernel_rfl) (by kernel_rfl) (fun _ _ _ h => h) (Or.inl ⟨rfl, ?ypU1_2⟩) (by assumption) ?_
                          case ypU1_2 => (intro w hSw; (try dsimp only at hSw); go_simp; first | done | with_reducible rfl)
                          simp only [List.getElem_toArray, List.getElem_cons_succ, List.getElem_cons_zero, Act.put, List.setIfInBounds_toArray, List.set_cons_zero, List.set_cons_succ]
                          refine wpAnyH_take (i := 3) (v := ?vpU1_3) rfl (by kernel_rfl) (by kernel_rfl) (by kernel_rfl) (fun _ _ _ h => h) (Or.inl ⟨rfl, ?ypU1_3⟩) (by assumption) ?_
                          case ypU1_3 => (intro w hSw; (try dsimp only at hSw); go_simp; first | done | with_reducible rfl)
                          simp only [List.getElem_toArray, List.getElem_cons_succ, List.getElem_cons_zero, Act.put, List.setIfInBounds_toArray, List.set_cons_zero, List.set_cons_succ]
                          refine wpAnyH_take (i := 4) (v := ?vpU1_4) rfl (by kernel_rfl) (by kernel_rfl) (by kernel_rfl) (fun _ _ _ h => h) (Or.inl ⟨rfl, ?ypU1_4⟩) (by assumption) ?_
                          case ypU1_4 => (intro w hSw; (try dsimp only at hSw); go_simp; first | done | with_reducible rfl)
                          simp only [List.getElem_toArray, List.getElem_cons_succ, List.getElem_cons_zero, Act.put, List.setIfInBounds_toArray, List.set_cons_zero, List.set_cons_succ]
                          refine wpAnyH_take (i := 5) (v := ?vpU1_5) rfl (by kernel_rfl) (by kernel_rfl) (by kernel_rfl) (fun _ _ _ h => h) (Or.inl ⟨rfl, ?ypU1_5⟩) (by assumption) ?_
                          case ypU1_5 => (intro w hSw; (try dsimp only at hSw); go_simp; first | done | with_reducible rfl)
                          simp only [List.getElem_toArray, List.getElem_cons_succ, List.getElem_cons_zero, Act.put, List.setIfInBounds_toArray, List.set_cons_zero, List.set_cons_succ]
                          refine wpAnyH_take (i := 6) (v := ?vpU1_6) rfl (by kernel_rfl) (by kernel_rfl) (by kernel_rfl) (fun _ _ _ h => h) (Or.inl ⟨rfl, ?ypU1_6⟩) (by assumption) ?_
                          case ypU1_6 => (intro w hSw; (try dsimp only at hSw); go_simp; first | done | with_reducible rfl)
                          simp only [List.getElem_toArray, List.getElem_cons_succ, List.getElem_cons_zero, Act.put, List.setIfInBounds_toArray, List.set_cons_zero, List.set_cons_succ]
                          refine wpAnyH_take (i := 7) (v := ?vpU1_7) rfl (by kernel_rfl) (by kernel_rfl) (by kernel_rfl) (fun _ _ _ h => h) (Or.inl ⟨rfl, ?ypU1_7⟩) (by assumption) ?_
                          case ypU1_7 => (intro w hSw; (try dsimp only at hSw); go_simp; first | done | with_reducible rfl)
                          simp only [List.getElem_toArray, List.getElem_cons_succ, List.getElem_cons_zero, Act.put, List.setIfInBounds_toArray, List.set_cons_zero, List.set_cons_succ]
                          refine wpAnyH_take (i := 8) (v := ?vpU1_8) rfl (by kernel_rfl) (by kernel_rfl) (by kernel_rfl) (fun _ _ _ h => h) (Or.inl ⟨rfl, ?ypU1_8⟩) (by assumption) ?_
                          case ypU1_8 => (intro w hSw; (try dsimp only at hSw); go_simp; first | done | with_reducible rfl)
                          simp only [List.getElem_toArray, List.getElem_cons_succ, List.getElem_cons_zero, Act.put, List.setIfInBounds_toArray, List.set_cons_zero, List.set_cons_succ]
                          refine wpAnyH_take (i := 10) (v := ?vpU1_10) rfl (by kernel_rfl) (by kernel_rfl) (by kernel_rfl) (fun _ _ _ h => h) (Or.inl ⟨rfl, ?ypU1_10⟩) (by assumption) ?_
                          case ypU1_10 => (intro w hSw; (try dsimp only at hSw); go_simp; first | done | with_reducible rfl)
                          simp only [List.getElem_toArray, List.getElem_cons_succ, List.getElem_cons_zero, Act.put, List.setIfInBounds_toArray, List.set_cons_zero, List.set_cons_succ]
                          refine wpAnyH_take (i := 11) (v := ?vpU1_11) rfl (by kernel_rfl) (by kernel_rfl) (by kernel_rfl) (fun _ _ _ h => h) (Or.inl ⟨rfl, ?ypU1_11⟩) (by assumption) ?_
                          case ypU1_11 => (intro w hSw; (try dsimp only at hSw); go_simp; first | done | with_reducible rfl)
                          simp only [List.getElem_toArray, List.getElem_cons_succ, List.getElem_cons_zero, Act.put, List.setIfInBounds_toArray, List.set_cons_zero, List.set_cons_succ]
                          refine wpAnyH_take (i := 12) (v := ?vpU1_12) rfl (by kernel_rfl) (by kernel_rfl) (by kernel_rfl) (fun _ _ _ h => h) (Or.inl ⟨rfl, ?ypU1_12⟩) (by assumption) ?_
                          case ypU1_12 => (intro w hSw; (try dsimp only at hSw); go_simp; first | done | with_reducible rfl)
                          simp only [List.getElem_toArray, List.getElem_cons_succ, List.getElem_cons_zero, Act.put, List.setIfInBounds_toArray, List.set_cons_zero, List.set_cons_succ]
                          refine wpAnyH_take (i := 13) (v := ?vpU1_13) rfl (by kernel_rfl) (by kernel_rfl) (by kernel_rfl) (fun _ _ _ h => h) (Or.inl ⟨rfl, ?ypU1_13⟩) (by assumption) ?_
                          case ypU1_13 => (intro w hSw; (try dsimp only at hSw); go_simp; first | done | with_reducible rfl)
                          simp only [List.getElem_toArray, List.getElem_cons_succ, List.getElem_cons_zero, Act.put, List.setIfInBounds_toArray, List.set_cons_zero, List.set_cons_succ]
                          refine wpAnyH_ready (rs := [9]) (by kernel_rfl) (by simp) ?_
                          refine AllReadyH.cons rfl (fun K hK => ?_) AllReadyH.nil
                          go_simp
                          refine (hbl.out _).mono ?_
                          rintro e w7 ⟨rfl, hb7⟩
                          have hb7d := ((Below.refl _ wr).drew).step hb7
                          go_wp2_with fail
                          refine hK.out _ _ ?_ (fun hHeld => ?_)
                          · exact ⟨below_step10 hHeld.1 hb7 hHeld.1.size, cell_step hHeld.2 hb7⟩
                          clear hK K
                          try simp only [List.getElem_toArray, List.getElem_cons_succ, List.getElem_cons_zero, Act.put, List.setIfInBounds_toArray, List.set_cons_zero, List.set_cons_succ]
                          refine wpAnyH_take (i := 14) (v := ?vpU1_14) rfl (by kernel_rfl) (by kernel_rfl) (by kernel_rfl) (fun _ _ _ h => h) (Or.inl ⟨rfl, ?ypU1_14⟩) (by assumption) ?_
                          case ypU1_14 => (intro w hSw; (try dsimp only at hSw); go_simp; first | done | with_reducible rfl)
                          simp only [List.getElem_toArray, List.getElem_cons_succ, List.getElem_cons_zero, Act.put, List.setIfInBounds_toArray, List.set_cons_zero, List.set_cons_succ]
                          have hrk := Lib.hid (own_keep10 hrl.out hb7d)
                          have hbw7 := Lib.hid hHeld.1
                          have hcp := c1
                          clear hrl hb7 hb7d
                          refine wpAnyH_ready (rs := [15]) (by kernel_rfl) (by simp) ?_
                          refine AllReadyH.cons rfl (fun K hK => ?_) AllReadyH.nil
                          go_simp
                          refine hK.out _ _ ?_ (fun hHeld => ?_)
                          · exact ⟨hbw7.out.alloc hbw7.out.size _, cell_on hHeld.2 _⟩
                          clear hK K
                          try simp only [List.getElem_toArray, List.getElem_cons_succ, List.getElem_cons_zero, Act.put, List.setIfInBounds_toArray, List.set_cons_zero, List.set_cons_succ]
                          refine wpAnyH_ready (rs := [16]) (by kernel_rfl) (by simp) ?_
                          refine AllReadyH.cons rfl (fun K hK => ?_) AllReadyH.nil
                          refine step_append_lies _ rfl (.tmp 74) (.tmp 89) 31 rfl w.heap.size 9 i0 _ 1 16 Tryd.underlying31 hi hz0 hz1 hz2 rfl (by decide) (.slice A5 (e + k) c5) (e + k) ((PP ++ (ls.take k).map (tpE (W : Int))).flatMap strC) rfl (hrk.out.alloc _) ⟨w7.heap.size, 0, none⟩ 1 1 [.string (BB ++ x)] rfl rfl (news8 _ _ _) (one8s _) (by decide) (by unfold maxLen; omega) (by omega) (by have := hbw7.out.size; simp [World.drew]; omega) _ rfl (fun g5 cap w5 ho5 hg5 _ hlt5 => ?_)
                          have hA5 : ∀ k2, (Value.slice A5 (e + k) c5).ownBlock = some k2 → w.heap.size ≤ k2 := fun k2 hk2 => owns_ge8 hrk.out hk2
                          have hb5 : Hid (Below w.heap.size w w5) := Lib.hid (Below.grown (hbw7.out.alloc hbw7.out.size _) hg5 (by have := hbw7.out.size; simp; omega) hA5)
                          have hrow5 : Hid (w5.ownsRow w.heap.size 9 1 (.slice (some ⟨g5, 0, none⟩) (e + k + 1) cap) (e + k + 1) ((PP ++ (ls.take (k + 1)).map (tpE (W : Int))).flatMap strC)) := Lib.hid (by rw [hsn.out]; exact ho5)
                          refine hK.out _ _ ⟨hb5.out, (hb5.out.cell (p := ⟨b, off + k, none⟩) hgl).trans c00.out⟩ (fun hHeld5 => ?_)
                          clear hK K hA5 hg5 ho5
                          try simp only [List.getElem_toArray, List.getElem_cons_succ, List.getElem_cons_zero, Act.put, List.setIfInBounds_toArray, List.set_cons_zero, List.set_cons_succ]
                          refine wpAnyH_take (i := 17) (v := ?vz17) rfl (by kernel_rfl) (by kernel_rfl) (by kernel_rfl) (fun _ _ _ h => h) (Or.inl ⟨rfl, ?yz17⟩) (by assumption) ?_
                          case yz17 => (intro w hSw; (try dsimp only at hSw); go_simp; first | done | with_reducible rfl)
                          simp only [List.getElem_toArray, List.getElem_cons_succ, List.getElem_cons_zero, Act.put, List.setIfInBounds_toArray, List.set_cons_zero, List.set_cons_succ]
                          refine wpAnyH_done (by kernel_rfl) ?_ _
                          go_wp2
                          go_roundw
                          case rel => exact ⟨k + 1, by omega, by go_num, hb5.out, hrow5.out⟩
                          case measure => simp [intOf]; omega
                        · obtain rfl : n = k := by omega
                          have g00 : ¬ (n : Int) < (n : Int) := by omega
                          rw [List.take_of_length_le (by rw [hl.out]; exact Nat.le_refl _)] at hrow
                          have hQl : Hid ((PP ++ ls.map (tpE (W : Int))).length = e + n) := Lib.hid (by rw [List.length_append, List.length_map, hl.out, hPl.out])
                          generalize PP ++ ls.map (tpE (W : Int)) = Q at hrow hres hQl
                          obtain ⟨m, hm⟩ : ∃ m, e + n = m := ⟨_, rfl⟩
                          rw [hm] at hrow hQl hnh
                          replace hm := Lib.hid hm
                          have hr0 := Lib.hid hrow
                          have hbw0 := Lib.hid hbw
                          clear hrow hbw hk hwz
                          go_wp2
                          go_loopw [10] (fun v wr => ∃ t j : Nat, m + j = t ∧ t ≤ H ∧ Below w.heap.size w wr ∧ wr.ownsRow w.heap.size 9 1 v t ((Q ++ List.replicate j ByteArray.empty).flatMap strC)) (fun v _ => H - lenV v)
                          case atStart => exact ⟨m, 0, rfl, hnh, hbw0.out, by rw [List.replicate_zero, List.append_nil]; exact hr0.out⟩
                          case round =>
                            rename World => wr
                            clear hr0 hbw0
                            obtain ⟨t, j, hj, htH, hbw, hrow⟩ := hrel
                            have hwz := hbw.size
                            obtain ⟨A5, c5, rfl⟩ := owns_form8 hrow
                            by_cases hlt : t < H
                            · have k1 : (t : Int) < (H : Int) := by omega
                              have hrl := Lib.hid hrow
                              clear hrow
                              go_wp2_with (at_builtin; refine wpList_append_own _ rfl _ _ 31 rfl w.heap.size 9 i0 _ 1 16 Tryd.underlying31 hi hz0 hz1 hz2 rfl (by decide) _ _ _ rfl (hrl.out.alloc _) ⟨wr.heap.size, 0, none⟩ 1 1 [.string ByteArray.empty] rfl rfl (news8 _ _ _) (one8s _) (by unfold maxLen; omega) (by omega) (by simp; omega) ?_)
                              intro vqq wqq hownqq hgrqq hnilqq
                              have hgqqq := grown_trans (grown_below (below_a1 wr _) _) hgrqq
                              clear hgrqq hnilqq
                              have hq : Hid (wqq.ownsRow w.heap.size 9 1 vqq (t + 1) ((Q ++ List.replicate (j + 1) ByteArray.empty).flatMap strC) ∧ Below w.heap.size w wqq) := Lib.hid ⟨by rw [snoc_r, List.flatMap_append, List.append_assoc]; exact hownqq, hbw.grown hgqqq hwz (fun j hj => owns_ge8 hrl.out hj)⟩
                              clear hownqq hgqqq
                              obtain ⟨A6, c6, rfl⟩ := owns_form8 hq.out.1
                              clear hrl
                              go_wp2
                              go_roundw
                              case rel => exact ⟨t + 1, j + 1, by omega, by omega, hq.out.2, hq.out.1⟩
                              case measure => simp [lenV]; omega
                            · obtain rfl : H = t := by omega
                              have g01 : ¬ (H : Int) < (H : Int) := by omega
                              have hjj : H - e - n = j := by have := hm.out; omega
                              rw [hjj] at hres
                              obtain ⟨A9, c9, hA9, hO⟩ := owns_s8 (by rw [List.length_append, List.length_replicate, hQl.out]; exact hj) hrow
                              cases hA9
                              have hO2 := Lib.hid hO
                              have hcode : Hid (res.2 = 0) := Lib.hid (by rw [hres.out])
                              clear hO hrow
                              go_wp2
                              go_ret2
                              exact ⟨A5, H, c5, by rw [hcode.out]; rfl, by omega, by rw [hres.out]; exact hO2.out, hbw⟩
                · have hr : Hid (res = ([], 5)) := Lib.hid (by rw [hres.out, decide_eq_false (by omega)]; rfl)
                  have g1 : decide ((H : Int) < (n : Int)) = true := decide_eq_true (by omega)
                  have g2 : decide (H < n) = true := decide_eq_true (by omega)
                  go_wp2
                  go_ret2
                  exact TOut.bad hr.out (Below.refl _ _)
      · have hr : Hid (res = ([], 2)) := Lib.hid (by rw [hres.out, decide_eq_false c1]; rfl)
        have p1 : (30 : Int) < (n : Int) := by omega
        clear hres
        go_wp2
        go_ret2
        exact TOut.bad hr.out (Below.refl _ _)
end Go.Proofs.YtalmpiffjghhkaaDoor
