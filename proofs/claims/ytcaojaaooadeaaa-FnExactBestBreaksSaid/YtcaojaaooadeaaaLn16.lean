/- The best breaks: the model's. -/
import Derived.Test.YtcaojaaooadeaaaLn15
namespace Go.Proofs.Ytcaojaaooadeaaa
open Go.RowKit Go.ChangeShapes Go.WideShapes Go.Deep
set_option linter.unusedVariables false
set_option linter.unusedSimpArgs false

/-- A slice of int64 that the call owns, a number and a code. -/
def IOut3 (r : List Int × Int × Int) (w : World) (e : Ending) (w' : World) : Prop :=
  ∃ A n c, e = .returned (.tuple #[.slice A n c, .int .i64 r.2.1, .int .i64 r.2.2]) ∧ n ≤ 1048576 ∧ OInts w' w.heap.size A n r.1 ∧ Below w.heap.size w w'
theorem IOut3.bad {r : List Int × Int × Int} {w w' : World} {a b : Int} (hr : r = ([], a, b)) (hb : Below w.heap.size w w') : IOut3 r w (.returned (.tuple #[.slice none 0 0, .int .i64 a, .int .i64 b])) w' := by
  subst hr
  exact ⟨none, 0, 0, rfl, by omega, ORow.nil_, hb⟩
theorem IOut3.good {r : List Int × Int × Int} {w w1 w' : World} {A : Option Addr} {n c : Nat} {l : List Int} {a : Int} (hr : r = (l, a, 0)) (hn : n ≤ 1048576) (h : OInts w' w1.heap.size A n l) (hz : w.heap.size ≤ w1.heap.size) (hb : Below w.heap.size w w') : IOut3 r w (.returned (.tuple #[.slice A n c, .int .i64 a, .int .i64 0])) w' := by
  subst hr
  exact ⟨A, n, c, rfl, hn, h.mono hz, hb⟩
theorem bbR_bad {ws : List ByteArray} {wd : Int} (h : okW ws wd = false) : bbR ws wd = ([], 0, 1) := by simp [bbR, h]
theorem bbR_good {ws : List ByteArray} {W : Nat} (h : okW ws (W : Int) = true) : bbR ws (W : Int) = (bestL W ws, (endE W ws 0).1, 0) := by simp [bbR, h]
theorem fol_stop {W : Nat} {ws : List ByteArray} {f p : Nat} (h : ws.length ≤ (endE W ws p).2) : folL W ws f p = [] := by
  cases f with
  | zero => rfl
  | succ f => rw [folL, if_neg (by omega)]
theorem fol_go {W : Nat} {ws : List ByteArray} {f p j : Nat} (he : (endE W ws p).2 = j) (h : j < ws.length) (hf : ws.length - p ≤ f) (hp : p < ws.length) : folL W ws f p = (j : Int) :: folL W ws (f - 1) j := by
  obtain ⟨g, rfl⟩ : ∃ g, f = g + 1 := ⟨f - 1, by omega⟩
  rw [folL, he, if_pos h, Nat.add_sub_cancel]
set_option maxRecDepth 100000 in
set_option maxHeartbeats 6400000 in
theorem bb9_specC (A : Option Addr) (n c : Nat) (ws : List ByteArray) (wd : Int) (w : World) (h : Strs w A n ws) (hn : n ≤ 1048576) (hc : n ≤ c) (hg : ∀ x ∈ ws, x.size ≤ maxLen) :
    Calls Try.prog 25 #[.slice A n c, .int .i64 wd] w (IOut3 (bbR ws wd) w) := by
  generalize hr : bbR ws wd = r
  replace hr := Lib.hid hr.symm
  have hl := Lib.hid h.1
  cases h1 : okW ws wd with
  | false =>
    have hbad : Hid (r = ([], 0, 1)) := Lib.hid (by rw [hr.out, bbR_bad h1])
    have hc1 := Lib.hid (ok9_spec A n c ws wd h1 w h hn hg)
    clear h1 hr h hg
    go_enter Try.func25, Try.ntmps25
    go_wp2_with fail
    refine hc1.out.mono ?_
    rintro e w1 ⟨rfl, rfl⟩
    go_wp2
    go_ret3
    exact IOut3.bad hbad.out (Below.refl _ _)
  | true =>
    obtain ⟨n40, wd1, w80, hws⟩ := okW_ok h1
    obtain ⟨W, rfl⟩ : ∃ W : Nat, wd = (W : Int) := ⟨wd.toNat, by omega⟩
    rw [hl.out] at n40
    have hgood : Hid (r = (bestL W ws, (endE W ws 0).1, 0)) := Lib.hid (by rw [hr.out, bbR_good h1])
    have hc1 := Lib.hid (ok9_spec A n c ws W h1 w h hn hg)
    have hss : ∀ x ∈ ws, x.size ≤ W := fun x hx => by have := (hws x hx).2.1; omega
    have hW80 : W ≤ 80 := by omega
    have hbd := Lib.hid (bad9_spec A n c ws W hW80 (by omega) hc hss w h)
    have hs0 := Lib.hid hss
    have her := Lib.hid (fun k => end_le hW80 hss (by rw [hl.out]; omega) k)
    have hst := Lib.hid (fun p hp => step_E hW80 hss (by rw [hl.out]; omega) (i := p) hp)
    have hcr := Lib.hid (fun p k h1 h2 hf => cost_range hW80 hss (by rw [hl.out]; omega) (p := p) (k := k) h1 h2 hf)
    have hfi := Lib.hid (fun p k (h1 : p ≤ k) (h2 : k ≤ ws.length) => fitI_iff (W := W) (ws := ws) h1 h2)
    have hfle := Lib.hid (fun p => fitI_le W ws p)
    obtain ⟨i0, hi, hz0, hz1, hz2⟩ := info_parts Try.infoI64
    clear h1 hr hg hws hss
    go_enter Try.func25, Try.ntmps25
    go_wp2_with fail
    refine hc1.out.mono ?_
    rintro e w1 ⟨rfl, rfl⟩
    go_wp2_with fail
    refine hbd.out.mono ?_
    rintro e w1 ⟨L, rfl, hO, hL, hb1⟩
    have hSw := h.below hb1
    have hgl := (hO.parts9 (i := 0) (by omega)).2.2.1
    have hcell : Hid (∀ j, j ≤ n → w1.cell? ⟨w.heap.size, j, none⟩ = some (.int .i64 (endE W ws j).1)) := Lib.hid (fun j hj => by rw [(hO.parts9 (i := j) (by omega)).1, hL j hj])
    have hb10 := Lib.hid hb1
    generalize hgw : w.heap.size = g at *
    have hzz : Hid (w.heap.size ≤ w1.heap.size) := Lib.hid (by have := hb10.out.size; omega)
    replace hgw := Lib.hid hgw
    clear hbd hc1 h hO hL hb1
    go_wp2
    go_loopw [8, 10, 11, 12] (fun v i _ _ wr => ∃ (p f : Nat) (out : List Int), i = .int .i64 (p : Int) ∧ p ≤ n ∧ n - p ≤ f ∧ out.length ≤ p ∧ bestL W ws = out ++ folL W ws f p ∧ Below w1.heap.size w1 wr ∧ wr.ownsRow w1.heap.size 2 1 v out.length (out.flatMap intC)) (fun _ i _ _ _ => n - (intOf i).toNat)
    case atStart => exact ⟨0, n, [], rfl, by omega, by omega, by simp, by rw [bestL, hl.out]; rfl, below_a1 _ _, owns_new8 w1 _⟩
    case round =>
      rename World => wr
      obtain ⟨p, f, out, rfl, hpn, hf, hol, hout, hbw, hrow⟩ := hrel
      have hwz := hbw.size
      replace hout := Lib.hid hout
      have hcw : Hid (∀ j, j ≤ n → wr.cell? ⟨g, j, none⟩ = some (.int .i64 (endE W ws j).1)) := Lib.hid (fun j hj => (hbw.cell (p := ⟨g, j, none⟩) hgl).trans (hcell.out j hj))
      have c00 := hcw.out 0 (by omega)
      have hg0 : Hid (r.2.1 = (endE W ws 0).1) := Lib.hid (by rw [hgood.out])
      by_cases hlt : p < n
      · obtain ⟨b, off, rfl, hb, hV⟩ := view9 (hSw.below hbw) (a := p) (e := n) hlt (Nat.le_refl _)
        rw [List.take_of_length_le (by rw [List.length_drop, hl.out]; omega)] at hV
        have hlong := Lib.hid (long9_spec _ (n - p) (c - p) (ws.drop p) (by omega) (fun x hx => by have := hs0.out x (List.mem_of_mem_drop hx); omega) rfl _ hV)
        have hfn := hfi.out p n (by omega) (by rw [hl.out]; exact Nat.le_refl _)
        rw [lineW, show (ws.drop p).take (n - p) = ws.drop p from List.take_of_length_le (by rw [List.length_drop, hl.out]; omega)] at hfn
        have cp := hcw.out p (by omega)
        have hk0 : (0 : Int) ≤ (p : Int) := Int.natCast_nonneg _
        have hk1 : (p : Int) < (n : Int) := by omega
        have hk2 : (p : Int) < ((n + 1 : Nat) : Int) := by omega
        have hk3 : (p : Int) < (n : Int) + 1 := by omega
        have hk4 : (p : Int) ≤ (c : Int) := by omega
        have hwp : IntKind.i64.wrap ((p : Int) + 1) = ((p + 1 : Nat) : Int) := by rw [IntWalk.i64_in _ (by omega)]; omega
        generalize longN (ws.drop p) = LN at *
        by_cases hfit : LN ≤ W
        · have hall := hfn.1 hfit
          have he : endE W ws p = (0, p + fitI W ws p) := end_all (by rw [hl.out]; exact hall)
          rw [he] at cp
          have g1 : decide ((LN : Int) ≤ (W : Int)) = true := decide_eq_true (by omega)
          have g2 : decide (LN ≤ W) = true := decide_eq_true hfit
          have hfin : Hid (bestL W ws = out) := Lib.hid (by rw [hout.out, fol_stop (by rw [he]; simp only; rw [hl.out]; exact hall), List.append_nil])
          replace he := Lib.hid he
          obtain ⟨A9, c9, rfl, hO9⟩ := owns_i8 rfl hrow
          have hO90 := Lib.hid hO9
          have hbe := Lib.hid (hb10.out.trans (hbw.mono (by rw [← hgw.out]; exact hzz.out)))
          generalize (endE W ws 0).1 = E0 at *
          clear hfn hrow hO9 hV hout
          go_wp2_with fail
          refine hlong.out.mono ?_
          rintro e w' ⟨rfl, rfl⟩
          go_wp2_with fail
          refine wp_region_held_drew (S := fun w' => w'.cell? ⟨g, 0, none⟩ = some (.int .i64 E0)) (by kernel_rfl) ?_ (fun hHeld => ?_)
          · exact c00
          refine wpAnyH_take (i := 0) (v := ?veU1_0) rfl (by kernel_rfl) (by kernel_rfl) (by kernel_rfl) (fun _ _ _ h => h) (Or.inl ⟨rfl, ?yeU1_0⟩) (by assumption) ?_
          case yeU1_0 => (intro w hSw; (try dsimp only at hSw); go_simp; first | done | with_reducible rfl)
          simp only [List.getElem_toArray, List.getElem_cons_succ, List.getElem_cons_zero, Act.put, List.setIfInBounds_toArray, List.set_cons_zero, List.set_cons_succ]
          refine wpAnyH_take (i := 1) (v := ?veU1_1) rfl (by kernel_rfl) (by kernel_rfl) (by kernel_rfl) (fun _ _ _ h => h) (Or.inl ⟨rfl, ?yeU1_1⟩) (by assumption) ?_
          case yeU1_1 => (intro w hSw; (try dsimp only at hSw); go_simp; first | done | with_reducible rfl)
          simp only [List.getElem_toArray, List.getElem_cons_succ, List.getElem_cons_zero, Act.put, List.setIfInBounds_toArray, List.set_cons_zero, List.set_cons_succ]
          refine wpAnyH_take (i := 2) (v := ?veU1_2) rfl (by kernel_rfl) (by kernel_rfl) (by kernel_rfl) (fun _ _ _ h => h) (Or.inl ⟨rfl, ?yeU1_2⟩) (by assumption) ?_
          case yeU1_2 => (intro w hSw; (try dsimp only at hSw); go_simp; first | done | with_reducible rfl)
          simp only [List.getElem_toArray, List.getElem_cons_succ, List.getElem_cons_zero, Act.put, List.setIfInBounds_toArray, List.set_cons_zero, List.set_cons_succ]
          refine wpAnyH_take (i := 3) (v := ?veU1_3) rfl (by kernel_rfl) (by kernel_rfl) (by kernel_rfl) (fun _ _ _ h => h) (Or.inl ⟨rfl, ?yeU1_3⟩) (by assumption) ?_
          case yeU1_3 => (intro w hSw; (try dsimp only at hSw); go_simp; first | done | with_reducible rfl)
          simp only [List.getElem_toArray, List.getElem_cons_succ, List.getElem_cons_zero, Act.put, List.setIfInBounds_toArray, List.set_cons_zero, List.set_cons_succ]
          refine wpAnyH_take (i := 4) (v := ?veU1_4) rfl (by kernel_rfl) (by kernel_rfl) (by kernel_rfl) (fun _ _ _ h => h) (Or.inl ⟨rfl, ?yeU1_4⟩) (by assumption) ?_
          case yeU1_4 => (intro w hSw; (try dsimp only at hSw); go_simp; first | done | with_reducible rfl)
          simp only [List.getElem_toArray, List.getElem_cons_succ, List.getElem_cons_zero, Act.put, List.setIfInBounds_toArray, List.set_cons_zero, List.set_cons_succ]
          refine wpAnyH_take (i := 5) (v := ?veU1_5) rfl (by kernel_rfl) (by kernel_rfl) (by kernel_rfl) (fun _ _ _ h => h) (Or.inl ⟨rfl, ?yeU1_5⟩) (by assumption) ?_
          case yeU1_5 => (intro w hSw; (try dsimp only at hSw); go_simp; first | done | with_reducible rfl)
          simp only [List.getElem_toArray, List.getElem_cons_succ, List.getElem_cons_zero, Act.put, List.setIfInBounds_toArray, List.set_cons_zero, List.set_cons_succ]
          refine wpAnyH_take (i := 6) (v := ?veU1_6) rfl (by kernel_rfl) (by kernel_rfl) (by kernel_rfl) (fun _ _ _ h => h) (Or.inl ⟨rfl, ?yeU1_6⟩) (by assumption) ?_
          case yeU1_6 => (intro w hSw; (try dsimp only at hSw); go_simp; first | done | with_reducible rfl)
          simp only [List.getElem_toArray, List.getElem_cons_succ, List.getElem_cons_zero, Act.put, List.setIfInBounds_toArray, List.set_cons_zero, List.set_cons_succ]
          refine wpAnyH_done (by kernel_rfl) ?_ _
          have hbd := hbe.out.drew
          go_wp2
          go_ret3
          exact IOut3.good (l := out) (by rw [hgood.out, hfin.out, ← hg0.out, hgood.out]) (by omega) (hO90.out.below (Below.refl _ _).drew) hzz.out (by rw [hgw.out]; exact hbd)
        · have hnf : ¬ n ≤ p + fitI W ws p := fun hh => hfit (hfn.2 hh)
          obtain ⟨f1, f2, f3, _, j, j1, j2, j3, j4, j5⟩ := hst.out p (by rw [hl.out]; omega)
          rw [hl.out] at f2
          have g1 : decide ((LN : Int) ≤ (W : Int)) = false := decide_eq_false (by omega)
          have g2 : decide (LN ≤ W) = false := decide_eq_false hfit
          have hnx : Hid (bestL W ws = (out ++ [(j : Int)]) ++ folL W ws (f - 1) j) := Lib.hid (by rw [hout.out, fol_go (by rw [j3]) (by rw [hl.out]; omega) (by rw [hl.out]; exact hf) (by rw [hl.out]; exact hlt)]; simp)
          obtain ⟨Ep, hEp⟩ : ∃ Ep, costE W ws p j = Ep := ⟨_, rfl⟩
          rw [j3] at cp
          simp only at cp
          rw [hEp] at cp j4 j5
          have hlast : Hid (∀ k, p + 1 ≤ k → k ≤ j → (costE W ws p k = Ep ↔ k = j)) := Lib.hid (fun k k1 k2 => by
            by_cases hkj : k = j
            · rw [hkj, hEp]; simp
            · have := j4 k k1 (by omega)
              constructor
              · intro h; omega
              · intro h; exact absurd h hkj)
          have hjn : j < n := by omega
          have hrl := Lib.hid hrow
          have hf2 := Lib.hid f2
          have hj2 := Lib.hid j2
          replace j3 := Lib.hid j3
          replace j4 := Lib.hid j4
          replace j5 := Lib.hid j5
          replace hEp := Lib.hid hEp
          replace hnf := Lib.hid hnf
          clear hfn hrow hV hout f2 j2 f3
          by_cases hz : Ep = 0
          · have z1 : (Ep == 0) = true := beq_iff_eq.2 hz
            subst hz
            go_wp2_with fail
            refine hlong.out.mono ?_
            rintro e w' ⟨rfl, rfl⟩
            clear hlong
            go_wp2
            go_loopw [8, 10, 11, 12] (fun v i kk _ wi => ∃ k : Nat, p + 1 ≤ k ∧ k ≤ j ∧ kk = .int .i64 (k : Int) ∧ i = .int .i64 (p : Int) ∧ Below wr.heap.size wr wi ∧ wi.ownsRow w1.heap.size 2 1 v out.length (out.flatMap intC)) (fun _ _ kk _ _ => j + 1 - (intOf kk).toNat)
            case atStart => exact ⟨p + 1, Nat.le_refl _, j1, rfl, rfl, Below.refl _ _, hrl.out⟩
            case round =>
              rename World => wi
              obtain ⟨k, hk1', hkj, rfl, rfl, hbi, hrowi⟩ := hrel
              have hkn : k < n := by omega
              have hwzi := hbi.size
              have hkf : k ≤ p + fitI W ws p := Nat.le_trans hkj hj2.out
              obtain ⟨b9, off9, e9, _, hVk⟩ := view9 ((hSw.below hbw).below hbi) (a := p) (e := k) (by omega) (by omega)
              cases e9
              have hlk := Lib.hid (long9_spec _ (k - p) (c - p) ((ws.drop p).take (k - p)) (by omega) (fun x hx => by have := hs0.out x (List.mem_of_mem_drop (List.mem_of_mem_take hx)); omega) rfl _ hVk)
              have hfk := (hfi.out p k (by omega) (by rw [hl.out]; omega)).2 hkf
              obtain ⟨cr0, cr1⟩ := hcr.out p k (by omega) (by rw [hl.out]; omega) hkf
              obtain ⟨er0, er1⟩ := her.out k
              have hcE : costE W ws p k = ((W : Int) - (longN (lineW ws (p, k)) : Int)) * ((W : Int) - (longN (lineW ws (p, k)) : Int)) + (endE W ws k).1 := rfl
              rw [show lineW ws (p, k) = (ws.drop p).take (k - p) from rfl] at hcE hfk
              obtain ⟨s0, s1⟩ := sq80 hW80 hfk
              generalize longN ((ws.drop p).take (k - p)) = LK at *
              obtain ⟨X, hX⟩ : ∃ X, (W : Int) - (LK : Int) = X := ⟨_, rfl⟩
              have hx1 : IntKind.i64.wrap ((W : Int) - (LK : Int)) = X := by rw [hX]; exact IntWalk.i64_in _ (by omega)
              rw [hX] at hcE s0 s1
              obtain ⟨Z, hZ⟩ : ∃ Z, X * X = Z := ⟨_, rfl⟩
              have hx2 : IntKind.i64.wrap (X * X) = Z := by rw [hZ]; exact IntWalk.i64_in _ (by omega)
              rw [hZ] at hcE s0 s1
              obtain ⟨E, hE⟩ : ∃ E, (endE W ws k).1 = E := ⟨_, rfl⟩
              obtain ⟨C, hCC⟩ : ∃ C, costE W ws p k = C := ⟨_, rfl⟩
              have hlk2 := hlast.out k hk1' hkj
              rw [hE] at hcE er0 er1
              rw [hCC] at hcE cr0 cr1 hlk2
              have hx3 : IntKind.i64.wrap (E + Z) = C := by rw [IntWalk.i64_in _ (by omega)]; omega
              have u0 := (hbi.cell (p := ⟨g, k, none⟩) (Nat.lt_of_lt_of_le hgl hwz)).trans (hcw.out k (by omega))
              have t0 := (hbi.cell (p := ⟨g, p, none⟩) (Nat.lt_of_lt_of_le hgl hwz)).trans cp
              rw [hE] at u0
              have x0 : decide ((0 : Int) ≤ X) = true := decide_eq_true (by omega)
              have y1 : (k : Int) < (n : Int) := by omega
              have y4 : (k : Int) ≤ (c : Int) := by omega
              have y5 : (p : Int) ≤ (k : Int) := by omega
              have y6 : (0 : Int) ≤ (k : Int) := Int.natCast_nonneg _
              have y7 : (k : Int) < (n : Int) + 1 := by omega
              have y8 : p < k := by omega
              have hwk : IntKind.i64.wrap ((k : Int) + 1) = ((k + 1 : Nat) : Int) := by rw [IntWalk.i64_in _ (by omega)]; omega
              have hrk := Lib.hid hrowi
              replace hX := Lib.hid hX
              replace hZ := Lib.hid hZ
              replace hE := Lib.hid hE
              replace hCC := Lib.hid hCC
              replace hcE := Lib.hid hcE
              clear hVk hfk s0 s1 cr0 cr1 er0 er1 hrowi
              by_cases hkj2 : k = j
              · have g6 : (C == 0) = true := beq_iff_eq.2 (hlk2.2 hkj2)
                replace hlk2 := Lib.hid hlk2
                replace hkj2 := Lib.hid hkj2
                have hsn := Lib.hid (snoc8 out (k : Int))
                have hbwi := hbw.trans ((hbi.mono hwz).drew)
                have hwzi2 := hbwi.size
                have hrl2 : Hid (wi.drew.ownsRow w1.heap.size 2 1 u8 out.length (out.flatMap intC)) := Lib.hid (owns_keep8 hrk.out (Below.refl _ _).drew)
                go_wp2_with fail
                refine hlk.out.mono ?_
                rintro e w' ⟨rfl, rfl⟩
                clear hlk
                go_wp2_with fail
                refine wp_region_held_drew (S := fun w' => w'.cell? ⟨g, p, none⟩ = some (.int .i64 0) ∧ w'.cell? ⟨g, k, none⟩ = some (.int .i64 E)) (by kernel_rfl) ?_ (fun hHeld => ?_)
                · exact ⟨t0, u0⟩
                refine wpAnyH_take (i := 0) (v := ?vaU2_0) rfl (by kernel_rfl) (by kernel_rfl) (by kernel_rfl) (fun _ _ _ h => h) (Or.inl ⟨rfl, ?yaU2_0⟩) (by assumption) ?_
                case yaU2_0 => (intro w hSw; (try dsimp only at hSw); go_simp; first | done | with_reducible rfl)
                simp only [List.getElem_toArray, List.getElem_cons_succ, List.getElem_cons_zero, Act.put, List.setIfInBounds_toArray, List.set_cons_zero, List.set_cons_succ]
                refine wpAnyH_take (i := 1) (v := ?vaU2_1) rfl (by kernel_rfl) (by kernel_rfl) (by kernel_rfl) (fun _ _ _ h => h) (Or.inl ⟨rfl, ?yaU2_1⟩) (by assumption) ?_
                case yaU2_1 => (intro w hSw; (try dsimp only at hSw); go_simp; first | done | with_reducible rfl)
                simp only [List.getElem_toArray, List.getElem_cons_succ, List.getElem_cons_zero, Act.put, List.setIfInBounds_toArray, List.set_cons_zero, List.set_cons_succ]
                refine wpAnyH_take (i := 2) (v := ?vaU2_2) rfl (by kernel_rfl) (by kernel_rfl) (by kernel_rfl) (fun _ _ _ h => h) (Or.inl ⟨rfl, ?yaU2_2⟩) (by assumption) ?_
                case yaU2_2 => (intro w hSw; (try dsimp only at hSw); go_simp; first | done | with_reducible rfl)
                simp only [List.getElem_toArray, List.getElem_cons_succ, List.getElem_cons_zero, Act.put, List.setIfInBounds_toArray, List.set_cons_zero, List.set_cons_succ]
                refine wpAnyH_take (i := 3) (v := ?vaU2_3) rfl (by kernel_rfl) (by kernel_rfl) (by kernel_rfl) (fun _ _ _ h => h) (Or.inl ⟨rfl, ?yaU2_3⟩) (by assumption) ?_
                case yaU2_3 => (intro w hSw; (try dsimp only at hSw); go_simp; first | done | with_reducible rfl)
                simp only [List.getElem_toArray, List.getElem_cons_succ, List.getElem_cons_zero, Act.put, List.setIfInBounds_toArray, List.set_cons_zero, List.set_cons_succ]
                refine wpAnyH_take (i := 4) (v := ?vaU2_4) rfl (by kernel_rfl) (by kernel_rfl) (by kernel_rfl) (fun _ _ _ h => h) (Or.inl ⟨rfl, ?yaU2_4⟩) (by assumption) ?_
                case yaU2_4 => (intro w hSw; (try dsimp only at hSw); go_simp; first | done | with_reducible rfl)
                simp only [List.getElem_toArray, List.getElem_cons_succ, List.getElem_cons_zero, Act.put, List.setIfInBounds_toArray, List.set_cons_zero, List.set_cons_succ]
                refine wpAnyH_take (i := 5) (v := ?vaU2_5) rfl (by kernel_rfl) (by kernel_rfl) (by kernel_rfl) (fun _ _ _ h => h) (Or.inl ⟨rfl, ?yaU2_5⟩) (by assumption) ?_
                case yaU2_5 => (intro w hSw; (try dsimp only at hSw); go_simp; first | done | with_reducible rfl)
                simp only [List.getElem_toArray, List.getElem_cons_succ, List.getElem_cons_zero, Act.put, List.setIfInBounds_toArray, List.set_cons_zero, List.set_cons_succ]
                refine wpAnyH_take (i := 6) (v := ?vaU2_6) rfl (by kernel_rfl) (by kernel_rfl) (by kernel_rfl) (fun _ _ _ h => h) (Or.inl ⟨rfl, ?yaU2_6⟩) (by assumption) ?_
                case yaU2_6 => (intro w hSw; (try dsimp only at hSw); go_simp; first | done | with_reducible rfl)
                simp only [List.getElem_toArray, List.getElem_cons_succ, List.getElem_cons_zero, Act.put, List.setIfInBounds_toArray, List.set_cons_zero, List.set_cons_succ]
                refine wpAnyH_take (i := 7) (v := ?vaU2_7) rfl (by kernel_rfl) (by kernel_rfl) (by kernel_rfl) (fun _ _ _ h => h) (Or.inl ⟨rfl, ?yaU2_7⟩) (by assumption) ?_
                case yaU2_7 => (intro w hSw; (try dsimp only at hSw); go_simp; first | done | with_reducible rfl)
                simp only [List.getElem_toArray, List.getElem_cons_succ, List.getElem_cons_zero, Act.put, List.setIfInBounds_toArray, List.set_cons_zero, List.set_cons_succ]
                refine wpAnyH_take (i := 8) (v := ?vaU2_8) rfl (by kernel_rfl) (by kernel_rfl) (by kernel_rfl) (fun _ _ _ h => h) (Or.inl ⟨rfl, ?yaU2_8⟩) (by assumption) ?_
                case yaU2_8 => (intro w hSw; (try dsimp only at hSw); go_simp; first | done | with_reducible rfl)
                simp only [List.getElem_toArray, List.getElem_cons_succ, List.getElem_cons_zero, Act.put, List.setIfInBounds_toArray, List.set_cons_zero, List.set_cons_succ]
                refine wpAnyH_take (i := 9) (v := ?vaU2_9) rfl (by kernel_rfl) (by kernel_rfl) (by kernel_rfl) (fun _ _ _ h => h) (Or.inl ⟨rfl, ?yaU2_9⟩) (by assumption) ?_
                case yaU2_9 => (intro w hSw; (try dsimp only at hSw); go_simp; first | done | with_reducible rfl)
                simp only [List.getElem_toArray, List.getElem_cons_succ, List.getElem_cons_zero, Act.put, List.setIfInBounds_toArray, List.set_cons_zero, List.set_cons_succ]
                refine wpAnyH_take (i := 10) (v := ?vaU2_10) rfl (by kernel_rfl) (by kernel_rfl) (by kernel_rfl) (fun _ _ _ h => h) (Or.inl ⟨rfl, ?yaU2_10⟩) (by assumption) ?_
                case yaU2_10 => (intro w hSw; (try dsimp only at hSw); go_simp; first | done | with_reducible rfl)
                simp only [List.getElem_toArray, List.getElem_cons_succ, List.getElem_cons_zero, Act.put, List.setIfInBounds_toArray, List.set_cons_zero, List.set_cons_succ]
                refine wpAnyH_take (i := 11) (v := ?vaU2_11) rfl (by kernel_rfl) (by kernel_rfl) (by kernel_rfl) (fun _ _ _ h => h) (Or.inl ⟨rfl, ?yaU2_11⟩) (by assumption) ?_
                case yaU2_11 => (intro w hSw; (try dsimp only at hSw); go_simp; first | done | with_reducible rfl)
                simp only [List.getElem_toArray, List.getElem_cons_succ, List.getElem_cons_zero, Act.put, List.setIfInBounds_toArray, List.set_cons_zero, List.set_cons_succ]
                refine wpAnyH_take (i := 12) (v := ?vaU2_12) rfl (by kernel_rfl) (by kernel_rfl) (by kernel_rfl) (fun _ _ _ h => h) (Or.inl ⟨rfl, ?yaU2_12⟩) (by assumption) ?_
                case yaU2_12 => (intro w hSw; (try dsimp only at hSw); go_simp; first | done | with_reducible rfl)
                simp only [List.getElem_toArray, List.getElem_cons_succ, List.getElem_cons_zero, Act.put, List.setIfInBounds_toArray, List.set_cons_zero, List.set_cons_succ]
                refine wpAnyH_take (i := 13) (v := ?vaU2_13) rfl (by kernel_rfl) (by kernel_rfl) (by kernel_rfl) (fun _ _ _ h => h) (Or.inl ⟨rfl, ?yaU2_13⟩) (by assumption) ?_
                case yaU2_13 => (intro w hSw; (try dsimp only at hSw); go_simp; first | done | with_reducible rfl)
                simp only [List.getElem_toArray, List.getElem_cons_succ, List.getElem_cons_zero, Act.put, List.setIfInBounds_toArray, List.set_cons_zero, List.set_cons_succ]
                refine wpAnyH_take (i := 14) (v := ?vaU2_14) rfl (by kernel_rfl) (by kernel_rfl) (by kernel_rfl) (fun _ _ _ h => h) (Or.inl ⟨rfl, ?yaU2_14⟩) (by assumption) ?_
                case yaU2_14 => (intro w hSw; (try dsimp only at hSw); go_simp; first | done | with_reducible rfl)
                simp only [List.getElem_toArray, List.getElem_cons_succ, List.getElem_cons_zero, Act.put, List.setIfInBounds_toArray, List.set_cons_zero, List.set_cons_succ]
                refine wpAnyH_take (i := 15) (v := ?vaU2_15) rfl (by kernel_rfl) (by kernel_rfl) (by kernel_rfl) (fun _ _ _ h => h) (Or.inl ⟨rfl, ?yaU2_15⟩) (by assumption) ?_
                case yaU2_15 => (intro w hSw; (try dsimp only at hSw); go_simp; first | done | with_reducible rfl)
                simp only [List.getElem_toArray, List.getElem_cons_succ, List.getElem_cons_zero, Act.put, List.setIfInBounds_toArray, List.set_cons_zero, List.set_cons_succ]
                refine wpAnyH_take (i := 16) (v := ?vaU2_16) rfl (by kernel_rfl) (by kernel_rfl) (by kernel_rfl) (fun _ _ _ h => h) (Or.inl ⟨rfl, ?yaU2_16⟩) (by assumption) ?_
                case yaU2_16 => (intro w hSw; (try dsimp only at hSw); go_simp; first | done | with_reducible rfl)
                simp only [List.getElem_toArray, List.getElem_cons_succ, List.getElem_cons_zero, Act.put, List.setIfInBounds_toArray, List.set_cons_zero, List.set_cons_succ]
                refine wpAnyH_done (by kernel_rfl) ?_ _
                generalize wi.drew = wd9 at *
                go_wp2_with (at_builtin; refine wpList_append_own _ rfl _ _ 27 rfl w1.heap.size 2 i0 _ 1 8 Try.underlying27 hi hz0 hz1 hz2 rfl (by decide) _ _ _ rfl (hrl2.out.alloc _) ⟨wd9.heap.size, 0, none⟩ 1 1 [.int .i64 (k : Int)] rfl rfl (news8 _ _ _) (one8 _) (by unfold maxLen; omega) (by omega) (by simp; omega) ?_)
                intro vqq wqq hownqq hgrqq hnilqq
                have hgqqq := grown_trans (grown_below (below_a1 wd9 _) _) hgrqq
                clear hgrqq hnilqq
                have hq : Hid (wqq.ownsRow w1.heap.size 2 1 vqq (out.length + 1) ((out ++ [(k : Int)]).flatMap intC) ∧ Below w1.heap.size w1 wqq) := Lib.hid ⟨by rw [hsn.out]; exact hownqq, hbwi.grown hgqqq hwzi2 (fun j hj => owns_ge8 hrl2.out hj)⟩
                clear hownqq hgqqq
                have hfinal : Hid (bestL W ws = (out ++ [(k : Int)]) ++ folL W ws (f - 1) k) := Lib.hid (by rw [hkj2.out]; exact hnx.out)
                clear hrl2 hrk
                go_wp2
                go_roundw
                case rel => exact ⟨k, f - 1, out ++ [(k : Int)], rfl, by omega, by omega, by simp; omega, hfinal.out, hq.out.2, by rw [List.length_append]; exact hq.out.1⟩
                case measure => simp [intOf]; omega
              · have g6 : (C == 0) = false := beq_eq_false_iff_ne.2 (fun hh => hkj2 (hlk2.1 hh))
                replace hlk2 := Lib.hid hlk2
                have hbd2 := Lib.hid hbi.drew
                have hrl2 : Hid (wi.drew.ownsRow w1.heap.size 2 1 u8 out.length (out.flatMap intC)) := Lib.hid (owns_keep8 hrk.out (Below.refl _ _).drew)
                go_wp2_with fail
                refine hlk.out.mono ?_
                rintro e w' ⟨rfl, rfl⟩
                clear hlk
                go_wp2_with fail
                refine wp_region_held_drew (S := fun w' => w'.cell? ⟨g, p, none⟩ = some (.int .i64 0) ∧ w'.cell? ⟨g, k, none⟩ = some (.int .i64 E)) (by kernel_rfl) ?_ (fun hHeld => ?_)
                · exact ⟨t0, u0⟩
                refine wpAnyH_take (i := 0) (v := ?vbU3_0) rfl (by kernel_rfl) (by kernel_rfl) (by kernel_rfl) (fun _ _ _ h => h) (Or.inl ⟨rfl, ?ybU3_0⟩) (by assumption) ?_
                case ybU3_0 => (intro w hSw; (try dsimp only at hSw); go_simp; first | done | with_reducible rfl)
                simp only [List.getElem_toArray, List.getElem_cons_succ, List.getElem_cons_zero, Act.put, List.setIfInBounds_toArray, List.set_cons_zero, List.set_cons_succ]
                refine wpAnyH_take (i := 1) (v := ?vbU3_1) rfl (by kernel_rfl) (by kernel_rfl) (by kernel_rfl) (fun _ _ _ h => h) (Or.inl ⟨rfl, ?ybU3_1⟩) (by assumption) ?_
                case ybU3_1 => (intro w hSw; (try dsimp only at hSw); go_simp; first | done | with_reducible rfl)
                simp only [List.getElem_toArray, List.getElem_cons_succ, List.getElem_cons_zero, Act.put, List.setIfInBounds_toArray, List.set_cons_zero, List.set_cons_succ]
                refine wpAnyH_take (i := 2) (v := ?vbU3_2) rfl (by kernel_rfl) (by kernel_rfl) (by kernel_rfl) (fun _ _ _ h => h) (Or.inl ⟨rfl, ?ybU3_2⟩) (by assumption) ?_
                case ybU3_2 => (intro w hSw; (try dsimp only at hSw); go_simp; first | done | with_reducible rfl)
                simp only [List.getElem_toArray, List.getElem_cons_succ, List.getElem_cons_zero, Act.put, List.setIfInBounds_toArray, List.set_cons_zero, List.set_cons_succ]
                refine wpAnyH_take (i := 3) (v := ?vbU3_3) rfl (by kernel_rfl) (by kernel_rfl) (by kernel_rfl) (fun _ _ _ h => h) (Or.inl ⟨rfl, ?ybU3_3⟩) (by assumption) ?_
                case ybU3_3 => (intro w hSw; (try dsimp only at hSw); go_simp; first | done | with_reducible rfl)
                simp only [List.getElem_toArray, List.getElem_cons_succ, List.getElem_cons_zero, Act.put, List.setIfInBounds_toArray, List.set_cons_zero, List.set_cons_succ]
                refine wpAnyH_take (i := 4) (v := ?vbU3_4) rfl (by kernel_rfl) (by kernel_rfl) (by kernel_rfl) (fun _ _ _ h => h) (Or.inl ⟨rfl, ?ybU3_4⟩) (by assumption) ?_
                case ybU3_4 => (intro w hSw; (try dsimp only at hSw); go_simp; first | done | with_reducible rfl)
                simp only [List.getElem_toArray, List.getElem_cons_succ, List.getElem_cons_zero, Act.put, List.setIfInBounds_toArray, List.set_cons_zero, List.set_cons_succ]
                refine wpAnyH_take (i := 5) (v := ?vbU3_5) rfl (by kernel_rfl) (by kernel_rfl) (by kernel_rfl) (fun _ _ _ h => h) (Or.inl ⟨rfl, ?ybU3_5⟩) (by assumption) ?_
                case ybU3_5 => (intro w hSw; (try dsimp only at hSw); go_simp; first | done | with_reducible rfl)
                simp only [List.getElem_toArray, List.getElem_cons_succ, List.getElem_cons_zero, Act.put, List.setIfInBounds_toArray, List.set_cons_zero, List.set_cons_succ]
                refine wpAnyH_take (i := 6) (v := ?vbU3_6) rfl (by kernel_rfl) (by kernel_rfl) (by kernel_rfl) (fun _ _ _ h => h) (Or.inl ⟨rfl, ?ybU3_6⟩) (by assumption) ?_
                case ybU3_6 => (intro w hSw; (try dsimp only at hSw); go_simp; first | done | with_reducible rfl)
                simp only [List.getElem_toArray, List.getElem_cons_succ, List.getElem_cons_zero, Act.put, List.setIfInBounds_toArray, List.set_cons_zero, List.set_cons_succ]
                refine wpAnyH_take (i := 7) (v := ?vbU3_7) rfl (by kernel_rfl) (by kernel_rfl) (by kernel_rfl) (fun _ _ _ h => h) (Or.inl ⟨rfl, ?ybU3_7⟩) (by assumption) ?_
                case ybU3_7 => (intro w hSw; (try dsimp only at hSw); go_simp; first | done | with_reducible rfl)
                simp only [List.getElem_toArray, List.getElem_cons_succ, List.getElem_cons_zero, Act.put, List.setIfInBounds_toArray, List.set_cons_zero, List.set_cons_succ]
                refine wpAnyH_take (i := 8) (v := ?vbU3_8) rfl (by kernel_rfl) (by kernel_rfl) (by kernel_rfl) (fun _ _ _ h => h) (Or.inl ⟨rfl, ?ybU3_8⟩) (by assumption) ?_
                case ybU3_8 => (intro w hSw; (try dsimp only at hSw); go_simp; first | done | with_reducible rfl)
                simp only [List.getElem_toArray, List.getElem_cons_succ, List.getElem_cons_zero, Act.put, List.setIfInBounds_toArray, List.set_cons_zero, List.set_cons_succ]
                refine wpAnyH_take (i := 9) (v := ?vbU3_9) rfl (by kernel_rfl) (by kernel_rfl) (by kernel_rfl) (fun _ _ _ h => h) (Or.inl ⟨rfl, ?ybU3_9⟩) (by assumption) ?_
                case ybU3_9 => (intro w hSw; (try dsimp only at hSw); go_simp; first | done | with_reducible rfl)
                simp only [List.getElem_toArray, List.getElem_cons_succ, List.getElem_cons_zero, Act.put, List.setIfInBounds_toArray, List.set_cons_zero, List.set_cons_succ]
                refine wpAnyH_take (i := 10) (v := ?vbU3_10) rfl (by kernel_rfl) (by kernel_rfl) (by kernel_rfl) (fun _ _ _ h => h) (Or.inl ⟨rfl, ?ybU3_10⟩) (by assumption) ?_
                case ybU3_10 => (intro w hSw; (try dsimp only at hSw); go_simp; first | done | with_reducible rfl)
                simp only [List.getElem_toArray, List.getElem_cons_succ, List.getElem_cons_zero, Act.put, List.setIfInBounds_toArray, List.set_cons_zero, List.set_cons_succ]
                refine wpAnyH_take (i := 11) (v := ?vbU3_11) rfl (by kernel_rfl) (by kernel_rfl) (by kernel_rfl) (fun _ _ _ h => h) (Or.inl ⟨rfl, ?ybU3_11⟩) (by assumption) ?_
                case ybU3_11 => (intro w hSw; (try dsimp only at hSw); go_simp; first | done | with_reducible rfl)
                simp only [List.getElem_toArray, List.getElem_cons_succ, List.getElem_cons_zero, Act.put, List.setIfInBounds_toArray, List.set_cons_zero, List.set_cons_succ]
                refine wpAnyH_take (i := 12) (v := ?vbU3_12) rfl (by kernel_rfl) (by kernel_rfl) (by kernel_rfl) (fun _ _ _ h => h) (Or.inl ⟨rfl, ?ybU3_12⟩) (by assumption) ?_
                case ybU3_12 => (intro w hSw; (try dsimp only at hSw); go_simp; first | done | with_reducible rfl)
                simp only [List.getElem_toArray, List.getElem_cons_succ, List.getElem_cons_zero, Act.put, List.setIfInBounds_toArray, List.set_cons_zero, List.set_cons_succ]
                refine wpAnyH_take (i := 13) (v := ?vbU3_13) rfl (by kernel_rfl) (by kernel_rfl) (by kernel_rfl) (fun _ _ _ h => h) (Or.inl ⟨rfl, ?ybU3_13⟩) (by assumption) ?_
                case ybU3_13 => (intro w hSw; (try dsimp only at hSw); go_simp; first | done | with_reducible rfl)
                simp only [List.getElem_toArray, List.getElem_cons_succ, List.getElem_cons_zero, Act.put, List.setIfInBounds_toArray, List.set_cons_zero, List.set_cons_succ]
                refine wpAnyH_take (i := 14) (v := ?vbU3_14) rfl (by kernel_rfl) (by kernel_rfl) (by kernel_rfl) (fun _ _ _ h => h) (Or.inl ⟨rfl, ?ybU3_14⟩) (by assumption) ?_
                case ybU3_14 => (intro w hSw; (try dsimp only at hSw); go_simp; first | done | with_reducible rfl)
                simp only [List.getElem_toArray, List.getElem_cons_succ, List.getElem_cons_zero, Act.put, List.setIfInBounds_toArray, List.set_cons_zero, List.set_cons_succ]
                refine wpAnyH_take (i := 15) (v := ?vbU3_15) rfl (by kernel_rfl) (by kernel_rfl) (by kernel_rfl) (fun _ _ _ h => h) (Or.inl ⟨rfl, ?ybU3_15⟩) (by assumption) ?_
                case ybU3_15 => (intro w hSw; (try dsimp only at hSw); go_simp; first | done | with_reducible rfl)
                simp only [List.getElem_toArray, List.getElem_cons_succ, List.getElem_cons_zero, Act.put, List.setIfInBounds_toArray, List.set_cons_zero, List.set_cons_succ]
                refine wpAnyH_take (i := 16) (v := ?vbU3_16) rfl (by kernel_rfl) (by kernel_rfl) (by kernel_rfl) (fun _ _ _ h => h) (Or.inl ⟨rfl, ?ybU3_16⟩) (by assumption) ?_
                case ybU3_16 => (intro w hSw; (try dsimp only at hSw); go_simp; first | done | with_reducible rfl)
                simp only [List.getElem_toArray, List.getElem_cons_succ, List.getElem_cons_zero, Act.put, List.setIfInBounds_toArray, List.set_cons_zero, List.set_cons_succ]
                refine wpAnyH_done (by kernel_rfl) ?_ _
                go_wp2
                go_roundw
                case rel => exact ⟨k + 1, by omega, by omega, by go_num, rfl, hbd2.out, hrl2.out⟩
                case measure => simp [intOf]; omega
          · have z1 : (Ep == 0) = false := beq_eq_false_iff_ne.2 hz
            replace hz := Lib.hid hz
            clear hlong
            go_wp2
            go_loopw [8, 10, 11, 12] (fun v i kk _ wi => ∃ k : Nat, p + 1 ≤ k ∧ k ≤ j ∧ kk = .int .i64 (k : Int) ∧ i = .int .i64 (p : Int) ∧ Below wr.heap.size wr wi ∧ wi.ownsRow w1.heap.size 2 1 v out.length (out.flatMap intC)) (fun _ _ kk _ _ => j + 1 - (intOf kk).toNat)
            case atStart => exact ⟨p + 1, Nat.le_refl _, j1, rfl, rfl, Below.refl _ _, hrl.out⟩
            case round =>
              rename World => wi
              obtain ⟨k, hk1', hkj, rfl, rfl, hbi, hrowi⟩ := hrel
              have hkn : k < n := by omega
              have hwzi := hbi.size
              have hkf : k ≤ p + fitI W ws p := Nat.le_trans hkj hj2.out
              obtain ⟨b9, off9, e9, _, hVk⟩ := view9 ((hSw.below hbw).below hbi) (a := p) (e := k) (by omega) (by omega)
              cases e9
              have hlk := Lib.hid (long9_spec _ (k - p) (c - p) ((ws.drop p).take (k - p)) (by omega) (fun x hx => by have := hs0.out x (List.mem_of_mem_drop (List.mem_of_mem_take hx)); omega) rfl _ hVk)
              have hfk := (hfi.out p k (by omega) (by rw [hl.out]; omega)).2 hkf
              obtain ⟨cr0, cr1⟩ := hcr.out p k (by omega) (by rw [hl.out]; omega) hkf
              obtain ⟨er0, er1⟩ := her.out k
              have hcE : costE W ws p k = ((W : Int) - (longN (lineW ws (p, k)) : Int)) * ((W : Int) - (longN (lineW ws (p, k)) : Int)) + (endE W ws k).1 := rfl
              rw [show lineW ws (p, k) = (ws.drop p).take (k - p) from rfl] at hcE hfk
              obtain ⟨s0, s1⟩ := sq80 hW80 hfk
              generalize longN ((ws.drop p).take (k - p)) = LK at *
              obtain ⟨X, hX⟩ : ∃ X, (W : Int) - (LK : Int) = X := ⟨_, rfl⟩
              have hx1 : IntKind.i64.wrap ((W : Int) - (LK : Int)) = X := by rw [hX]; exact IntWalk.i64_in _ (by omega)
              rw [hX] at hcE s0 s1
              obtain ⟨Z, hZ⟩ : ∃ Z, X * X = Z := ⟨_, rfl⟩
              have hx2 : IntKind.i64.wrap (X * X) = Z := by rw [hZ]; exact IntWalk.i64_in _ (by omega)
              rw [hZ] at hcE s0 s1
              obtain ⟨E, hE⟩ : ∃ E, (endE W ws k).1 = E := ⟨_, rfl⟩
              obtain ⟨C, hCC⟩ : ∃ C, costE W ws p k = C := ⟨_, rfl⟩
              have hlk2 := hlast.out k hk1' hkj
              rw [hE] at hcE er0 er1
              rw [hCC] at hcE cr0 cr1 hlk2
              have hx3 : IntKind.i64.wrap (E + Z) = C := by rw [IntWalk.i64_in _ (by omega)]; omega
              have u0 := (hbi.cell (p := ⟨g, k, none⟩) (Nat.lt_of_lt_of_le hgl hwz)).trans (hcw.out k (by omega))
              have t0 := (hbi.cell (p := ⟨g, p, none⟩) (Nat.lt_of_lt_of_le hgl hwz)).trans cp
              rw [hE] at u0
              have x0 : decide ((0 : Int) ≤ X) = true := decide_eq_true (by omega)
              have y1 : (k : Int) < (n : Int) := by omega
              have y4 : (k : Int) ≤ (c : Int) := by omega
              have y5 : (p : Int) ≤ (k : Int) := by omega
              have y6 : (0 : Int) ≤ (k : Int) := Int.natCast_nonneg _
              have y7 : (k : Int) < (n : Int) + 1 := by omega
              have y8 : p < k := by omega
              have hwk : IntKind.i64.wrap ((k : Int) + 1) = ((k + 1 : Nat) : Int) := by rw [IntWalk.i64_in _ (by omega)]; omega
              have hrk := Lib.hid hrowi
              replace hX := Lib.hid hX
              replace hZ := Lib.hid hZ
              replace hE := Lib.hid hE
              replace hCC := Lib.hid hCC
              replace hcE := Lib.hid hcE
              clear hVk hfk s0 s1 cr0 cr1 er0 er1 hrowi
              by_cases hkj2 : k = j
              · have g6 : (C == Ep) = true := beq_iff_eq.2 (hlk2.2 hkj2)
                replace hlk2 := Lib.hid hlk2
                replace hkj2 := Lib.hid hkj2
                have hsn := Lib.hid (snoc8 out (k : Int))
                have hbwi := hbw.trans ((hbi.mono hwz).drew)
                have hwzi2 := hbwi.size
                have hrl2 : Hid (wi.drew.ownsRow w1.heap.size 2 1 u8 out.length (out.flatMap intC)) := Lib.hid (owns_keep8 hrk.out (Below.refl _ _).drew)
                go_wp2_with fail
                refine hlk.out.mono ?_
                rintro e w' ⟨rfl, rfl⟩
                clear hlk
                go_wp2_with fail
                refine wp_region_held_drew (S := fun w' => w'.cell? ⟨g, p, none⟩ = some (.int .i64 Ep) ∧ w'.cell? ⟨g, k, none⟩ = some (.int .i64 E)) (by kernel_rfl) ?_ (fun hHeld => ?_)
                · exact ⟨t0, u0⟩
                refine wpAnyH_take (i := 0) (v := ?vaU4_0) rfl (by kernel_rfl) (by kernel_rfl) (by kernel_rfl) (fun _ _ _ h => h) (Or.inl ⟨rfl, ?yaU4_0⟩) (by assumption) ?_
                case yaU4_0 => (intro w hSw; (try dsimp only at hSw); go_simp; first | done | with_reducible rfl)
                simp only [List.getElem_toArray, List.getElem_cons_succ, List.getElem_cons_zero, Act.put, List.setIfInBounds_toArray, List.set_cons_zero, List.set_cons_succ]
                refine wpAnyH_take (i := 1) (v := ?vaU4_1) rfl (by kernel_rfl) (by kernel_rfl) (by kernel_rfl) (fun _ _ _ h => h) (Or.inl ⟨rfl, ?yaU4_1⟩) (by assumption) ?_
                case yaU4_1 => (intro w hSw; (try dsimp only at hSw); go_simp; first | done | with_reducible rfl)
                simp only [List.getElem_toArray, List.getElem_cons_succ, List.getElem_cons_zero, Act.put, List.setIfInBounds_toArray, List.set_cons_zero, List.set_cons_succ]
                refine wpAnyH_take (i := 2) (v := ?vaU4_2) rfl (by kernel_rfl) (by kernel_rfl) (by kernel_rfl) (fun _ _ _ h => h) (Or.inl ⟨rfl, ?yaU4_2⟩) (by assumption) ?_
                case yaU4_2 => (intro w hSw; (try dsimp only at hSw); go_simp; first | done | with_reducible rfl)
                simp only [List.getElem_toArray, List.getElem_cons_succ, List.getElem_cons_zero, Act.put, List.setIfInBounds_toArray, List.set_cons_zero, List.set_cons_succ]
                refine wpAnyH_take (i := 3) (v := ?vaU4_3) rfl (by kernel_rfl) (by kernel_rfl) (by kernel_rfl) (fun _ _ _ h => h) (Or.inl ⟨rfl, ?yaU4_3⟩) (by assumption) ?_
                case yaU4_3 => (intro w hSw; (try dsimp only at hSw); go_simp; first | done | with_reducible rfl)
                simp only [List.getElem_toArray, List.getElem_cons_succ, List.getElem_cons_zero, Act.put, List.setIfInBounds_toArray, List.set_cons_zero, List.set_cons_succ]
                refine wpAnyH_take (i := 4) (v := ?vaU4_4) rfl (by kernel_rfl) (by kernel_rfl) (by kernel_rfl) (fun _ _ _ h => h) (Or.inl ⟨rfl, ?yaU4_4⟩) (by assumption) ?_
                case yaU4_4 => (intro w hSw; (try dsimp only at hSw); go_simp; first | done | with_reducible rfl)
                simp only [List.getElem_toArray, List.getElem_cons_succ, List.getElem_cons_zero, Act.put, List.setIfInBounds_toArray, List.set_cons_zero, List.set_cons_succ]
                refine wpAnyH_take (i := 5) (v := ?vaU4_5) rfl (by kernel_rfl) (by kernel_rfl) (by kernel_rfl) (fun _ _ _ h => h) (Or.inl ⟨rfl, ?yaU4_5⟩) (by assumption) ?_
                case yaU4_5 => (intro w hSw; (try dsimp only at hSw); go_simp; first | done | with_reducible rfl)
                simp only [List.getElem_toArray, List.getElem_cons_succ, List.getElem_cons_zero, Act.put, List.setIfInBounds_toArray, List.set_cons_zero, List.set_cons_succ]
                refine wpAnyH_take (i := 6) (v := ?vaU4_6) rfl (by kernel_rfl) (by kernel_rfl) (by kernel_rfl) (fun _ _ _ h => h) (Or.inl ⟨rfl, ?yaU4_6⟩) (by assumption) ?_
                case yaU4_6 => (intro w hSw; (try dsimp only at hSw); go_simp; first | done | with_reducible rfl)
                simp only [List.getElem_toArray, List.getElem_cons_succ, List.getElem_cons_zero, Act.put, List.setIfInBounds_toArray, List.set_cons_zero, List.set_cons_succ]
                refine wpAnyH_take (i := 7) (v := ?vaU4_7) rfl (by kernel_rfl) (by kernel_rfl) (by kernel_rfl) (fun _ _ _ h => h) (Or.inl ⟨rfl, ?yaU4_7⟩) (by assumption) ?_
                case yaU4_7 => (intro w hSw; (try dsimp only at hSw); go_simp; first | done | with_reducible rfl)
                simp only [List.getElem_toArray, List.getElem_cons_succ, List.getElem_cons_zero, Act.put, List.setIfInBounds_toArray, List.set_cons_zero, List.set_cons_succ]
                refine wpAnyH_take (i := 8) (v := ?vaU4_8) rfl (by kernel_rfl) (by kernel_rfl) (by kernel_rfl) (fun _ _ _ h => h) (Or.inl ⟨rfl, ?yaU4_8⟩) (by assumption) ?_
                case yaU4_8 => (intro w hSw; (try dsimp only at hSw); go_simp; first | done | with_reducible rfl)
                simp only [List.getElem_toArray, List.getElem_cons_succ, List.getElem_cons_zero, Act.put, List.setIfInBounds_toArray, List.set_cons_zero, List.set_cons_succ]
                refine wpAnyH_take (i := 9) (v := ?vaU4_9) rfl (by kernel_rfl) (by kernel_rfl) (by kernel_rfl) (fun _ _ _ h => h) (Or.inl ⟨rfl, ?yaU4_9⟩) (by assumption) ?_
                case yaU4_9 => (intro w hSw; (try dsimp only at hSw); go_simp; first | done | with_reducible rfl)
                simp only [List.getElem_toArray, List.getElem_cons_succ, List.getElem_cons_zero, Act.put, List.setIfInBounds_toArray, List.set_cons_zero, List.set_cons_succ]
                refine wpAnyH_take (i := 10) (v := ?vaU4_10) rfl (by kernel_rfl) (by kernel_rfl) (by kernel_rfl) (fun _ _ _ h => h) (Or.inl ⟨rfl, ?yaU4_10⟩) (by assumption) ?_
                case yaU4_10 => (intro w hSw; (try dsimp only at hSw); go_simp; first | done | with_reducible rfl)
                simp only [List.getElem_toArray, List.getElem_cons_succ, List.getElem_cons_zero, Act.put, List.setIfInBounds_toArray, List.set_cons_zero, List.set_cons_succ]
                refine wpAnyH_take (i := 11) (v := ?vaU4_11) rfl (by kernel_rfl) (by kernel_rfl) (by kernel_rfl) (fun _ _ _ h => h) (Or.inl ⟨rfl, ?yaU4_11⟩) (by assumption) ?_
                case yaU4_11 => (intro w hSw; (try dsimp only at hSw); go_simp; first | done | with_reducible rfl)
                simp only [List.getElem_toArray, List.getElem_cons_succ, List.getElem_cons_zero, Act.put, List.setIfInBounds_toArray, List.set_cons_zero, List.set_cons_succ]
                refine wpAnyH_take (i := 12) (v := ?vaU4_12) rfl (by kernel_rfl) (by kernel_rfl) (by kernel_rfl) (fun _ _ _ h => h) (Or.inl ⟨rfl, ?yaU4_12⟩) (by assumption) ?_
                case yaU4_12 => (intro w hSw; (try dsimp only at hSw); go_simp; first | done | with_reducible rfl)
                simp only [List.getElem_toArray, List.getElem_cons_succ, List.getElem_cons_zero, Act.put, List.setIfInBounds_toArray, List.set_cons_zero, List.set_cons_succ]
                refine wpAnyH_take (i := 13) (v := ?vaU4_13) rfl (by kernel_rfl) (by kernel_rfl) (by kernel_rfl) (fun _ _ _ h => h) (Or.inl ⟨rfl, ?yaU4_13⟩) (by assumption) ?_
                case yaU4_13 => (intro w hSw; (try dsimp only at hSw); go_simp; first | done | with_reducible rfl)
                simp only [List.getElem_toArray, List.getElem_cons_succ, List.getElem_cons_zero, Act.put, List.setIfInBounds_toArray, List.set_cons_zero, List.set_cons_succ]
                refine wpAnyH_take (i := 14) (v := ?vaU4_14) rfl (by kernel_rfl) (by kernel_rfl) (by kernel_rfl) (fun _ _ _ h => h) (Or.inl ⟨rfl, ?yaU4_14⟩) (by assumption) ?_
                case yaU4_14 => (intro w hSw; (try dsimp only at hSw); go_simp; first | done | with_reducible rfl)
                simp only [List.getElem_toArray, List.getElem_cons_succ, List.getElem_cons_zero, Act.put, List.setIfInBounds_toArray, List.set_cons_zero, List.set_cons_succ]
                refine wpAnyH_take (i := 15) (v := ?vaU4_15) rfl (by kernel_rfl) (by kernel_rfl) (by kernel_rfl) (fun _ _ _ h => h) (Or.inl ⟨rfl, ?yaU4_15⟩) (by assumption) ?_
                case yaU4_15 => (intro w hSw; (try dsimp only at hSw); go_simp; first | done | with_reducible rfl)
                simp only [List.getElem_toArray, List.getElem_cons_succ, List.getElem_cons_zero, Act.put, List.setIfInBounds_toArray, List.set_cons_zero, List.set_cons_succ]
                refine wpAnyH_take (i := 16) (v := ?vaU4_16) rfl (by kernel_rfl) (by kernel_rfl) (by kernel_rfl) (fun _ _ _ h => h) (Or.inl ⟨rfl, ?yaU4_16⟩) (by assumption) ?_
                case yaU4_16 => (intro w hSw; (try dsimp only at hSw); go_simp; first | done | with_reducible rfl)
                simp only [List.getElem_toArray, List.getElem_cons_succ, List.getElem_cons_zero, Act.put, List.setIfInBounds_toArray, List.set_cons_zero, List.set_cons_succ]
                refine wpAnyH_done (by kernel_rfl) ?_ _
                generalize wi.drew = wd9 at *
                go_wp2_with (at_builtin; refine wpList_append_own _ rfl _ _ 27 rfl w1.heap.size 2 i0 _ 1 8 Try.underlying27 hi hz0 hz1 hz2 rfl (by decide) _ _ _ rfl (hrl2.out.alloc _) ⟨wd9.heap.size, 0, none⟩ 1 1 [.int .i64 (k : Int)] rfl rfl (news8 _ _ _) (one8 _) (by unfold maxLen; omega) (by omega) (by simp; omega) ?_)
                intro vqq wqq hownqq hgrqq hnilqq
                have hgqqq := grown_trans (grown_below (below_a1 wd9 _) _) hgrqq
                clear hgrqq hnilqq
                have hq : Hid (wqq.ownsRow w1.heap.size 2 1 vqq (out.length + 1) ((out ++ [(k : Int)]).flatMap intC) ∧ Below w1.heap.size w1 wqq) := Lib.hid ⟨by rw [hsn.out]; exact hownqq, hbwi.grown hgqqq hwzi2 (fun j hj => owns_ge8 hrl2.out hj)⟩
                clear hownqq hgqqq
                have hfinal : Hid (bestL W ws = (out ++ [(k : Int)]) ++ folL W ws (f - 1) k) := Lib.hid (by rw [hkj2.out]; exact hnx.out)
                clear hrl2 hrk
                go_wp2
                go_roundw
                case rel => exact ⟨k, f - 1, out ++ [(k : Int)], rfl, by omega, by omega, by simp; omega, hfinal.out, hq.out.2, by rw [List.length_append]; exact hq.out.1⟩
                case measure => simp [intOf]; omega
              · have g6 : (C == Ep) = false := beq_eq_false_iff_ne.2 (fun hh => hkj2 (hlk2.1 hh))
                replace hlk2 := Lib.hid hlk2
                have hbd2 := Lib.hid hbi.drew
                have hrl2 : Hid (wi.drew.ownsRow w1.heap.size 2 1 u8 out.length (out.flatMap intC)) := Lib.hid (owns_keep8 hrk.out (Below.refl _ _).drew)
                go_wp2_with fail
                refine hlk.out.mono ?_
                rintro e w' ⟨rfl, rfl⟩
                clear hlk
                go_wp2_with fail
                refine wp_region_held_drew (S := fun w' => w'.cell? ⟨g, p, none⟩ = some (.int .i64 Ep) ∧ w'.cell? ⟨g, k, none⟩ = some (.int .i64 E)) (by kernel_rfl) ?_ (fun hHeld => ?_)
                · exact ⟨t0, u0⟩
                refine wpAnyH_take (i := 0) (v := ?vbU5_0) rfl (by kernel_rfl) (by kernel_rfl) (by kernel_rfl) (fun _ _ _ h => h) (Or.inl ⟨rfl, ?ybU5_0⟩) (by assumption) ?_
                case ybU5_0 => (intro w hSw; (try dsimp only at hSw); go_simp; first | done | with_reducible rfl)
                simp only [List.getElem_toArray, List.getElem_cons_succ, List.getElem_cons_zero, Act.put, List.setIfInBounds_toArray, List.set_cons_zero, List.set_cons_succ]
                refine wpAnyH_take (i := 1) (v := ?vbU5_1) rfl (by kernel_rfl) (by kernel_rfl) (by kernel_rfl) (fun _ _ _ h => h) (Or.inl ⟨rfl, ?ybU5_1⟩) (by assumption) ?_
                case ybU5_1 => (intro w hSw; (try dsimp only at hSw); go_simp; first | done | with_reducible rfl)
                simp only [List.getElem_toArray, List.getElem_cons_succ, List.getElem_cons_zero, Act.put, List.setIfInBounds_toArray, List.set_cons_zero, List.set_cons_succ]
                refine wpAnyH_take (i := 2) (v := ?vbU5_2) rfl (by kernel_rfl) (by kernel_rfl) (by kernel_rfl) (fun _ _ _ h => h) (Or.inl ⟨rfl, ?ybU5_2⟩) (by assumption) ?_
                case ybU5_2 => (intro w hSw; (try dsimp only at hSw); go_simp; first | done | with_reducible rfl)
                simp only [List.getElem_toArray, List.getElem_cons_succ, List.getElem_cons_zero, Act.put, List.setIfInBounds_toArray, List.set_cons_zero, List.set_cons_succ]
                refine wpAnyH_take (i := 3) (v := ?vbU5_3) rfl (by kernel_rfl) (by kernel_rfl) (by kernel_rfl) (fun _ _ _ h => h) (Or.inl ⟨rfl, ?ybU5_3⟩) (by assumption) ?_
                case ybU5_3 => (intro w hSw; (try dsimp only at hSw); go_simp; first | done | with_reducible rfl)
                simp only [List.getElem_toArray, List.getElem_cons_succ, List.getElem_cons_zero, Act.put, List.setIfInBounds_toArray, List.set_cons_zero, List.set_cons_succ]
                refine wpAnyH_take (i := 4) (v := ?vbU5_4) rfl (by kernel_rfl) (by kernel_rfl) (by kernel_rfl) (fun _ _ _ h => h) (Or.inl ⟨rfl, ?ybU5_4⟩) (by assumption) ?_
                case ybU5_4 => (intro w hSw; (try dsimp only at hSw); go_simp; first | done | with_reducible rfl)
                simp only [List.getElem_toArray, List.getElem_cons_succ, List.getElem_cons_zero, Act.put, List.setIfInBounds_toArray, List.set_cons_zero, List.set_cons_succ]
                refine wpAnyH_take (i := 5) (v := ?vbU5_5) rfl (by kernel_rfl) (by kernel_rfl) (by kernel_rfl) (fun _ _ _ h => h) (Or.inl ⟨rfl, ?ybU5_5⟩) (by assumption) ?_
                case ybU5_5 => (intro w hSw; (try dsimp only at hSw); go_simp; first | done | with_reducible rfl)
                simp only [List.getElem_toArray, List.getElem_cons_succ, List.getElem_cons_zero, Act.put, List.setIfInBounds_toArray, List.set_cons_zero, List.set_cons_succ]
                refine wpAnyH_take (i := 6) (v := ?vbU5_6) rfl (by kernel_rfl) (by kernel_rfl) (by kernel_rfl) (fun _ _ _ h => h) (Or.inl ⟨rfl, ?ybU5_6⟩) (by assumption) ?_
                case ybU5_6 => (intro w hSw; (try dsimp only at hSw); go_simp; first | done | with_reducible rfl)
                simp only [List.getElem_toArray, List.getElem_cons_succ, List.getElem_cons_zero, Act.put, List.setIfInBounds_toArray, List.set_cons_zero, List.set_cons_succ]
                refine wpAnyH_take (i := 7) (v := ?vbU5_7) rfl (by kernel_rfl) (by kernel_rfl) (by kernel_rfl) (fun _ _ _ h => h) (Or.inl ⟨rfl, ?ybU5_7⟩) (by assumption) ?_
                case ybU5_7 => (intro w hSw; (try dsimp only at hSw); go_simp; first | done | with_reducible rfl)
                simp only [List.getElem_toArray, List.getElem_cons_succ, List.getElem_cons_zero, Act.put, List.setIfInBounds_toArray, List.set_cons_zero, List.set_cons_succ]
                refine wpAnyH_take (i := 8) (v := ?vbU5_8) rfl (by kernel_rfl) (by kernel_rfl) (by kernel_rfl) (fun _ _ _ h => h) (Or.inl ⟨rfl, ?ybU5_8⟩) (by assumption) ?_
                case ybU5_8 => (intro w hSw; (try dsimp only at hSw); go_simp; first | done | with_reducible rfl)
                simp only [List.getElem_toArray, List.getElem_cons_succ, List.getElem_cons_zero, Act.put, List.setIfInBounds_toArray, List.set_cons_zero, List.set_cons_succ]
                refine wpAnyH_take (i := 9) (v := ?vbU5_9) rfl (by kernel_rfl) (by kernel_rfl) (by kernel_rfl) (fun _ _ _ h => h) (Or.inl ⟨rfl, ?ybU5_9⟩) (by assumption) ?_
                case ybU5_9 => (intro w hSw; (try dsimp only at hSw); go_simp; first | done | with_reducible rfl)
                simp only [List.getElem_toArray, List.getElem_cons_succ, List.getElem_cons_zero, Act.put, List.setIfInBounds_toArray, List.set_cons_zero, List.set_cons_succ]
                refine wpAnyH_take (i := 10) (v := ?vbU5_10) rfl (by kernel_rfl) (by kernel_rfl) (by kernel_rfl) (fun _ _ _ h => h) (Or.inl ⟨rfl, ?ybU5_10⟩) (by assumption) ?_
                case ybU5_10 => (intro w hSw; (try dsimp only at hSw); go_simp; first | done | with_reducible rfl)
                simp only [List.getElem_toArray, List.getElem_cons_succ, List.getElem_cons_zero, Act.put, List.setIfInBounds_toArray, List.set_cons_zero, List.set_cons_succ]
                refine wpAnyH_take (i := 11) (v := ?vbU5_11) rfl (by kernel_rfl) (by kernel_rfl) (by kernel_rfl) (fun _ _ _ h => h) (Or.inl ⟨rfl, ?ybU5_11⟩) (by assumption) ?_
                case ybU5_11 => (intro w hSw; (try dsimp only at hSw); go_simp; first | done | with_reducible rfl)
                simp only [List.getElem_toArray, List.getElem_cons_succ, List.getElem_cons_zero, Act.put, List.setIfInBounds_toArray, List.set_cons_zero, List.set_cons_succ]
                refine wpAnyH_take (i := 12) (v := ?vbU5_12) rfl (by kernel_rfl) (by kernel_rfl) (by kernel_rfl) (fun _ _ _ h => h) (Or.inl ⟨rfl, ?ybU5_12⟩) (by assumption) ?_
                case ybU5_12 => (intro w hSw; (try dsimp only at hSw); go_simp; first | done | with_reducible rfl)
                simp only [List.getElem_toArray, List.getElem_cons_succ, List.getElem_cons_zero, Act.put, List.setIfInBounds_toArray, List.set_cons_zero, List.set_cons_succ]
                refine wpAnyH_take (i := 13) (v := ?vbU5_13) rfl (by kernel_rfl) (by kernel_rfl) (by kernel_rfl) (fun _ _ _ h => h) (Or.inl ⟨rfl, ?ybU5_13⟩) (by assumption) ?_
                case ybU5_13 => (intro w hSw; (try dsimp only at hSw); go_simp; first | done | with_reducible rfl)
                simp only [List.getElem_toArray, List.getElem_cons_succ, List.getElem_cons_zero, Act.put, List.setIfInBounds_toArray, List.set_cons_zero, List.set_cons_succ]
                refine wpAnyH_take (i := 14) (v := ?vbU5_14) rfl (by kernel_rfl) (by kernel_rfl) (by kernel_rfl) (fun _ _ _ h => h) (Or.inl ⟨rfl, ?ybU5_14⟩) (by assumption) ?_
                case ybU5_14 => (intro w hSw; (try dsimp only at hSw); go_simp; first | done | with_reducible rfl)
                simp only [List.getElem_toArray, List.getElem_cons_succ, List.getElem_cons_zero, Act.put, List.setIfInBounds_toArray, List.set_cons_zero, List.set_cons_succ]
                refine wpAnyH_take (i := 15) (v := ?vbU5_15) rfl (by kernel_rfl) (by kernel_rfl) (by kernel_rfl) (fun _ _ _ h => h) (Or.inl ⟨rfl, ?ybU5_15⟩) (by assumption) ?_
                case ybU5_15 => (intro w hSw; (try dsimp only at hSw); go_simp; first | done | with_reducible rfl)
                simp only [List.getElem_toArray, List.getElem_cons_succ, List.getElem_cons_zero, Act.put, List.setIfInBounds_toArray, List.set_cons_zero, List.set_cons_succ]
                refine wpAnyH_take (i := 16) (v := ?vbU5_16) rfl (by kernel_rfl) (by kernel_rfl) (by kernel_rfl) (fun _ _ _ h => h) (Or.inl ⟨rfl, ?ybU5_16⟩) (by assumption) ?_
                case ybU5_16 => (intro w hSw; (try dsimp only at hSw); go_simp; first | done | with_reducible rfl)
                simp only [List.getElem_toArray, List.getElem_cons_succ, List.getElem_cons_zero, Act.put, List.setIfInBounds_toArray, List.set_cons_zero, List.set_cons_succ]
                refine wpAnyH_done (by kernel_rfl) ?_ _
                go_wp2
                go_roundw
                case rel => exact ⟨k + 1, by omega, by omega, by go_num, rfl, hbd2.out, hrl2.out⟩
                case measure => simp [intOf]; omega
      · obtain rfl : p = n := by omega
        have hfin : Hid (bestL W ws = out) := Lib.hid (by rw [hout.out, fol_stop (by have := end_all (W := W) (ws := ws) (i := p) (by rw [hl.out]; omega); rw [this]; simp only; rw [hl.out]; omega), List.append_nil])
        obtain ⟨A9, c9, rfl, hO9⟩ := owns_i8 rfl hrow
        have hO90 := Lib.hid hO9
        have hbe := Lib.hid (hb10.out.trans (hbw.mono (by rw [← hgw.out]; exact hzz.out)))
        have hk1 : ¬ (p : Int) < (p : Int) := by omega
        generalize (endE W ws 0).1 = E0 at *
        clear hrow hO9 hout
        go_wp2_with fail
        refine wp_region_held_drew (S := fun w' => w'.cell? ⟨g, 0, none⟩ = some (.int .i64 E0)) (by kernel_rfl) ?_ (fun hHeld => ?_)
        · exact c00
        refine wpAnyH_take (i := 0) (v := ?veU6_0) rfl (by kernel_rfl) (by kernel_rfl) (by kernel_rfl) (fun _ _ _ h => h) (Or.inl ⟨rfl, ?yeU6_0⟩) (by assumption) ?_
        case yeU6_0 => (intro w hSw; (try dsimp only at hSw); go_simp; first | done | with_reducible rfl)
        simp only [List.getElem_toArray, List.getElem_cons_succ, List.getElem_cons_zero, Act.put, List.setIfInBounds_toArray, List.set_cons_zero, List.set_cons_succ]
        refine wpAnyH_take (i := 1) (v := ?veU6_1) rfl (by kernel_rfl) (by kernel_rfl) (by kernel_rfl) (fun _ _ _ h => h) (Or.inl ⟨rfl, ?yeU6_1⟩) (by assumption) ?_
        case yeU6_1 => (intro w hSw; (try dsimp only at hSw); go_simp; first | done | with_reducible rfl)
        simp only [List.getElem_toArray, List.getElem_cons_succ, List.getElem_cons_zero, Act.put, List.setIfInBounds_toArray, List.set_cons_zero, List.set_cons_succ]
        refine wpAnyH_take (i := 2) (v := ?veU6_2) rfl (by kernel_rfl) (by kernel_rfl) (by kernel_rfl) (fun _ _ _ h => h) (Or.inl ⟨rfl, ?yeU6_2⟩) (by assumption) ?_
        case yeU6_2 => (intro w hSw; (try dsimp only at hSw); go_simp; first | done | with_reducible rfl)
        simp only [List.getElem_toArray, List.getElem_cons_succ, List.getElem_cons_zero, Act.put, List.setIfInBounds_toArray, List.set_cons_zero, List.set_cons_succ]
        refine wpAnyH_take (i := 3) (v := ?veU6_3) rfl (by kernel_rfl) (by kernel_rfl) (by kernel_rfl) (fun _ _ _ h => h) (Or.inl ⟨rfl, ?yeU6_3⟩) (by assumption) ?_
        case yeU6_3 => (intro w hSw; (try dsimp only at hSw); go_simp; first | done | with_reducible rfl)
        simp only [List.getElem_toArray, List.getElem_cons_succ, List.getElem_cons_zero, Act.put, List.setIfInBounds_toArray, List.set_cons_zero, List.set_cons_succ]
        refine wpAnyH_take (i := 4) (v := ?veU6_4) rfl (by kernel_rfl) (by kernel_rfl) (by kernel_rfl) (fun _ _ _ h => h) (Or.inl ⟨rfl, ?yeU6_4⟩) (by assumption) ?_
        case yeU6_4 => (intro w hSw; (try dsimp only at hSw); go_simp; first | done | with_reducible rfl)
        simp only [List.getElem_toArray, List.getElem_cons_succ, List.getElem_cons_zero, Act.put, List.setIfInBounds_toArray, List.set_cons_zero, List.set_cons_succ]
        refine wpAnyH_take (i := 5) (v := ?veU6_5) rfl (by kernel_rfl) (by kernel_rfl) (by kernel_rfl) (fun _ _ _ h => h) (Or.inl ⟨rfl, ?yeU6_5⟩) (by assumption) ?_
        case yeU6_5 => (intro w hSw; (try dsimp only at hSw); go_simp; first | done | with_reducible rfl)
        simp only [List.getElem_toArray, List.getElem_cons_succ, List.getElem_cons_zero, Act.put, List.setIfInBounds_toArray, List.set_cons_zero, List.set_cons_succ]
        refine wpAnyH_take (i := 6) (v := ?veU6_6) rfl (by kernel_rfl) (by kernel_rfl) (by kernel_rfl) (fun _ _ _ h => h) (Or.inl ⟨rfl, ?yeU6_6⟩) (by assumption) ?_
        case yeU6_6 => (intro w hSw; (try dsimp only at hSw); go_simp; first | done | with_reducible rfl)
        simp only [List.getElem_toArray, List.getElem_cons_succ, List.getElem_cons_zero, Act.put, List.setIfInBounds_toArray, List.set_cons_zero, List.set_cons_succ]
        refine wpAnyH_done (by kernel_rfl) ?_ _
        have hbd := hbe.out.drew
        go_wp2
        go_ret3
        exact IOut3.good (l := out) (by rw [hgood.out, hfin.out, ← hg0.out, hgood.out]) (by omega) (hO90.out.below (Below.refl _ _).drew) hzz.out (by rw [hgw.out]; exact hbd)
theorem bb9_spec (A : Option Addr) (n m : Nat) (ws : List ByteArray) (wd : Int) (w : World) (h : Strs w A n ws) (hn : n ≤ 1048576) (hg : ∀ x ∈ ws, strGood x) (hw : (Lit.int .i64 wd).wf = true) :
    Calls Try.prog 25 #[.slice A n n, .int .i64 wd] w (IOut3 (bbR ws wd) w) := bb9_specC A n n ws wd w h hn (Nat.le_refl _) hg
end Go.Proofs.Ytcaojaaooadeaaa
