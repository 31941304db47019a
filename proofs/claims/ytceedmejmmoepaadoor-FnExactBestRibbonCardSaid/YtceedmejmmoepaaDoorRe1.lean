/- Ribbons: the model's BestRibbon. -/
import Derived.Test.YtceedmejmmoepaaDoorRe0
import Derived.OwnWalk
namespace Go.Proofs.YtceedmejmmoepaaDoor
open Go.RowKit Go.ChangeShapes Go.WideShapes Go.Deep
set_option linter.unusedVariables false
set_option linter.unusedSimpArgs false

theorem ret8_3 {p : Int × Int × Int} {a b c : Int} (h : p = (a, b, c)) : Ending.returned (.tuple #[.int .i64 a, .int .i64 b, .int .i64 c]) = .returned (.tuple #[.int .i64 p.1, .int .i64 p.2.1, .int .i64 p.2.2]) := by rw [h]
set_option maxRecDepth 100000 in
set_option maxHeartbeats 3200000 in
theorem br14W (A : Option Addr) (n c : Nat) (xs : List RibbonD) (B : Option Addr) (m d : Nat) (ps : List Int) (sn l : Int) (w : World) (hA : Ribbons w A n xs) (hn : n ≤ 1048576) (hB : Ints w B m ps) (hm : m ≤ 1048576) {q : Int × Int × Int} (hq : brR xs ps sn l = q) :
    Calls Tryd.prog 13 #[.slice A n c, .slice B m d, .int .i64 sn, .int .i64 l] w fun e w' => e = .returned (.tuple #[.int .i64 q.1, .int .i64 q.2.1, .int .i64 q.2.2]) ∧ Below w.heap.size w w' := by
  have hla := Lib.hid hA.1
  have hlb := Lib.hid hB.1
  have hr := Lib.hid hq.symm
  clear hq
  go_enter Tryd.func13, Tryd.ntmps13
  go_wp2
  go_loopw [11] (fun i wr => ∃ k : Nat, k ≤ n ∧ i = .int .i64 (k : Int) ∧ xs.all rbB = (xs.drop k).all rbB ∧ Below w.heap.size w wr) (fun i _ => n - (intOf i).toNat)
  case atStart => exact ⟨0, by omega, rfl, rfl, Below.refl _ _⟩
  case round =>
    rename World => wr
    obtain ⟨k, hk, rfl, hall, hbw⟩ := hrel
    replace hall := Lib.hid hall
    by_cases hlt : k < n
    · obtain ⟨b, off, x, rfl, hb, hx, c0, c1, c2⟩ := ribbon_at (hA.below hbw) hlt
      have k0 : (0 : Int) ≤ (k : Int) := Int.natCast_nonneg _
      have k1 : (k : Int) < (n : Int) := by omega
      have hwk : IntKind.i64.wrap ((k : Int) + 1) = ((k + 1 : Nat) : Int) := by rw [IntWalk.i64_in _ (by omega)]; omega
      have hst := Lib.hid (all8_drop (p := rbB) hx.out)
      cases h1 : rbB x with
      | false =>
        have hno : Hid (q = (0, 0, 1)) := Lib.hid (by
          have : ¬ xs.all rbB = true := by rw [hall.out, hst.out, h1]; simp
          have e : brC xs ps sn l = 1 := by rw [brC, if_neg this]
          rw [hr.out, brR, e, if_neg (by decide)])
        have hc := Lib.hid (fun W => ok14 x h1 W)
        clear h1
        obtain ⟨S, I, K⟩ := x
        go_wp2_with fail
        refine (hc.out _).mono ?_
        rintro e w1 ⟨rfl, hb1⟩
        replace hb1 := Lib.hid (hbw.step hb1)
        go_wp2
        go_ret3
        exact ⟨ret8_3 hno.out, hb1.out⟩
      | true =>
        have hnx : Hid (xs.all rbB = (xs.drop (k + 1)).all rbB) := Lib.hid (by rw [hall.out, hst.out, h1, Bool.true_and])
        have hc := Lib.hid (fun W => ok14 x h1 W)
        clear h1
        obtain ⟨S, I, K⟩ := x
        go_wp2_with fail
        refine (hc.out _).mono ?_
        rintro e w1 ⟨rfl, hb1⟩
        replace hb1 := Lib.hid (hbw.step hb1)
        go_wp2
        go_roundw
        case rel => exact ⟨k + 1, by omega, by go_num, hnx.out, hb1.out⟩
        case measure => simp [intOf]; omega
    · obtain rfl : k = n := by omega
      have hyes : Hid (xs.all rbB = true) := Lib.hid (by rw [hall.out, all8_end (by rw [hla.out]; omega)])
      clear hall
      have g0 : decide ((k : Int) < (k : Int)) = false := decide_eq_false (by omega)
      replace hbw := Lib.hid hbw
      go_wp2
      go_loopw [12] (fun i wx => ∃ j : Nat, j ≤ m ∧ i = .int .i64 (j : Int) ∧ ps.all priB = (ps.drop j).all priB ∧ wr = wx) (fun i _ => m - (intOf i).toNat)
      case atStart => exact ⟨0, by omega, rfl, rfl, rfl⟩
      case round =>
        obtain ⟨j, hj, rfl, hall, rfl⟩ := hrel
        replace hall := Lib.hid hall
        by_cases hlt2 : j < m
        · obtain ⟨b, off, p, rfl, hb, hx, c0⟩ := int_at (hB.below hbw.out) hlt2
          have j0 : (0 : Int) ≤ (j : Int) := Int.natCast_nonneg _
          have j1 : (j : Int) < (m : Int) := by omega
          have hwj : IntKind.i64.wrap ((j : Int) + 1) = ((j + 1 : Nat) : Int) := by rw [IntWalk.i64_in _ (by omega)]; omega
          have hst := Lib.hid (all8_drop (p := priB) hx.out)
          cases h1 : priB p with
          | false =>
            have hno : Hid (q = (0, 0, 2)) := Lib.hid (by
              have : ¬ ps.all priB = true := by rw [hall.out, hst.out, h1]; simp
              have e : brC xs ps sn l = 2 := by rw [brC, if_pos hyes.out, if_neg (fun h => this h.1)]
              rw [hr.out, brR, e, if_neg (by decide)])
            have hc := Lib.hid (fun W => in8_spec (show inR p 0 100000 = false from h1) W)
            clear h1
            go_wp2_with fail
            refine (hc.out _).mono ?_
            rintro e w1 ⟨rfl, rfl⟩
            go_wp2
            go_ret3
            exact ⟨ret8_3 hno.out, hbw.out⟩
          | true =>
            have hnx : Hid (ps.all priB = (ps.drop (j + 1)).all priB) := Lib.hid (by rw [hall.out, hst.out, h1, Bool.true_and])
            have hc := Lib.hid (fun W => in8_spec (show inR p 0 100000 = true from h1) W)
            clear h1
            go_wp2_with fail
            refine (hc.out _).mono ?_
            rintro e w1 ⟨rfl, rfl⟩
            go_wp2
            go_roundw
            case rel => exact ⟨j + 1, by omega, by go_num, hnx.out, (by first | trivial | rfl)⟩
            case measure => simp [intOf]; omega
        · obtain rfl : j = m := by omega
          have hyes2 : Hid (ps.all priB = true) := Lib.hid (by rw [hall.out, all8_end (by rw [hlb.out]; omega)])
          clear hall
          have g1 : decide ((j : Int) < (j : Int)) = false := decide_eq_false (by omega)
          have hbad : Hid (¬ (xs.length ≤ 20 ∧ ps.length = xs.length ∧ inR sn 0 100000 = true ∧ inR l 1 1000 = true) → q = (0, 0, 2)) := Lib.hid (fun h => by
            have e : brC xs ps sn l = 2 := by rw [brC, if_pos hyes.out, if_neg (fun h2 => h h2.2)]
            rw [hr.out, brR, e, if_neg (by decide)])
          by_cases hL1 : k ≤ 20
          · have g2 : decide ((20 : Int) < (k : Int)) = false := decide_eq_false (by omega)
            have g2' : decide (20 < k) = false := decide_eq_false (by omega)
            by_cases hL2 : j = k
            · have g3 : ((j : Int) == (k : Int)) = true := beq_iff_eq.2 (by omega)
              have g3' : (j == k) = true := beq_iff_eq.2 hL2
              have g3n : ((j : Int) != (k : Int)) = false := by rw [bne, g3]; rfl
              have g3n' : (j != k) = false := by rw [bne, g3']; rfl
              cases hL3 : inR sn 0 100000 with
              | false =>
                have hno := Lib.hid (hbad.out (fun h => by rw [hL3] at h; cases h.2.2.1))
                have hc := Lib.hid (fun W => in8_spec hL3 W)
                clear hL3
                replace hL2 := Lib.hid hL2
                go_wp2_with fail
                refine (hc.out _).mono ?_
                rintro e w1 ⟨rfl, rfl⟩
                go_wp2
                go_ret3
                exact ⟨ret8_3 hno.out, hbw.out⟩
              | true =>
                have hc := Lib.hid (fun W => in8_spec hL3 W)
                cases hL4 : inR l 1 1000 with
                | false =>
                  have hno := Lib.hid (hbad.out (fun h => by rw [hL4] at h; cases h.2.2.2))
                  have hc2 := Lib.hid (fun W => in8_spec hL4 W)
                  clear hL3 hL4
                  replace hL2 := Lib.hid hL2
                  go_wp2_with fail
                  refine (hc.out _).mono ?_
                  rintro e w1 ⟨rfl, rfl⟩
                  go_wp2_with fail
                  refine (hc2.out _).mono ?_
                  rintro e w1 ⟨rfl, rfl⟩
                  go_wp2
                  go_ret3
                  exact ⟨ret8_3 hno.out, hbw.out⟩
                | true =>
                  have hc2 := Lib.hid (fun W => in8_spec hL4 W)
                  obtain ⟨s0, s1⟩ := inR_iff.1 hL3
                  obtain ⟨t0, t1⟩ := inR_iff.1 hL4
                  have hqq : Hid (q = if (bsF xs ps sn l k).1 < 0 then (0, 0, 3) else ((bsF xs ps sn l k).1, (bsF xs ps sn l k).2, 0)) := Lib.hid (by
                    have e : brC xs ps sn l = 0 := by rw [brC, if_pos hyes.out, if_pos ⟨hyes2.out, by rw [hla.out]; exact hL1, by rw [hla.out, hlb.out]; exact hL2, hL3, hL4⟩]
                    rw [hr.out, brR, e, if_pos rfl, hla.out])
                  have hrg := Lib.hid (bsF_range xs ps sn l)
                  have hco := Lib.hid (bsF_cost xs ps sn l hyes.out hyes2.out s0 s1)
                  have hst := Lib.hid (fun k => (show bsF xs ps sn l (k + 1) = match xs[k]?, ps[k]? with
                    | some r, some p => if r.ink < l then bsF xs ps sn l k else if (bsF xs ps sn l k).1 < 0 ∨ p * manyV r sn l < (bsF xs ps sn l k).2 then ((k : Int), p * manyV r sn l) else bsF xs ps sn l k
                    | _, _ => bsF xs ps sn l k from rfl))
                  have hb0 : Hid (bsF xs ps sn l 0 = (-1, 0)) := Lib.hid rfl
                  have hmn := Lib.hid (fun (r : RibbonD) (hok : rbB r = true) (hl : l ≤ r.ink) W => many14 r hok sn l s0 s1 hl rfl W)
                  have hpr := Lib.hid (fun (r : RibbonD) (p : Int) (hok : rbB r = true) (hp : priB p = true) (hl : l ≤ r.ink) => price_range hok hp s0 s1 hl)
                  generalize bsF xs ps sn l = F at *
                  clear hL3 hL4 hbad
                  replace hL2 := Lib.hid hL2
                  go_wp2_with fail
                  refine (hc.out _).mono ?_
                  rintro e w1 ⟨rfl, rfl⟩
                  go_wp2_with fail
                  refine (hc2.out _).mono ?_
                  rintro e w1 ⟨rfl, rfl⟩
                  go_wp2
                  go_loopw [13, 14, 15, 16] (fun bb cc i _ wx => ∃ i0 : Nat, i0 ≤ k ∧ i = .int .i64 (i0 : Int) ∧ bb = .int .i64 (F i0).1 ∧ cc = .int .i64 (F i0).2 ∧ Below w.heap.size w wx) (fun _ _ i _ _ => k - (intOf i).toNat)
                  case atStart => exact ⟨0, by omega, rfl, by rw [hb0.out], by rw [hb0.out], hbw.out⟩
                  case round =>
                    rename World => wy
                    obtain ⟨i, hi, rfl, rfl, rfl, hby⟩ := hrel
                    by_cases hlt3 : i < k
                    · obtain ⟨b1, off1, x, rfl, hb1, hx1, c0, c1, c2⟩ := ribbon_at (hA.below hby) hlt3
                      obtain ⟨b2, off2, p, rfl, hb2, hx2, d0⟩ := int_at (hB.below hby) (show i < j by rw [hL2.out]; exact hlt3)
                      have i0 : (0 : Int) ≤ (i : Int) := Int.natCast_nonneg _
                      have i1 : (i : Int) < (k : Int) := by omega
                      have i2 : (i : Int) < (j : Int) := by have := hL2.out; omega
                      have hwi : IntKind.i64.wrap ((i : Int) + 1) = ((i + 1 : Nat) : Int) := by rw [IntWalk.i64_in _ (by omega)]; omega
                      have hrx : rbB x = true := List.all_eq_true.1 hyes.out x (List.mem_of_getElem? hx1.out)
                      have hpx : priB p = true := List.all_eq_true.1 hyes2.out p (List.mem_of_getElem? hx2.out)
                      have hs2 := hst.out i
                      rw [hx1.out, hx2.out] at hs2
                      simp only at hs2
                      replace hby := Lib.hid hby
                      by_cases hlk : x.ink < l
                      · have z1 : decide (x.ink < l) = true := decide_eq_true hlk
                        have hF : Hid (F (i + 1) = F i) := Lib.hid (by rw [hs2, if_pos hlk])
                        clear hs2 hlk hrx hpx
                        go_wp2
                        go_roundw
                        case rel => exact ⟨i + 1, by omega, by go_num, by rw [hF.out], by rw [hF.out], hby.out⟩
                        case measure => simp [intOf]; omega
                      · have z1 : decide (x.ink < l) = false := decide_eq_false hlk
                        rw [if_neg hlk] at hs2
                        have hm2 := Lib.hid (fun W => hmn.out x hrx (by omega) W)
                        obtain ⟨p0, p1⟩ := hpr.out x p hrx hpx (by omega)
                        obtain ⟨V, hV⟩ : ∃ V, manyV x sn l = V := ⟨_, rfl⟩
                        rw [hV] at hs2 hm2 p0 p1
                        have hwp0 : IntKind.i64.wrap (p * V) = p * V := IntWalk.i64_in _ (by omega)
                        obtain ⟨Q, hQ⟩ : ∃ Q, p * V = Q := ⟨_, rfl⟩
                        have hwp : IntKind.i64.wrap (p * V) = Q := by rw [hwp0, hQ]
                        rw [hQ] at hs2
                        have hFi := Lib.hid hs2
                        clear hs2 hwp0 hQ hV p0 p1 hrx hpx hlk
                        generalize hfb : (F i).1 = fb at *
                        generalize hfc : (F i).2 = fc at *
                        obtain ⟨S, I, K⟩ := x
                        simp only at c0 c1 c2 z1 hm2
                        by_cases hn1 : fb < 0
                        · have z2 : decide (fb < 0) = true := decide_eq_true hn1
                          have hF : Hid (F (i + 1) = ((i : Int), Q)) := Lib.hid (by rw [hFi.out, if_pos (.inl hn1)])
                          clear hn1
                          go_wp2_with fail
                          refine wp_region_held_drew (S := fun w' => Below w.heap.size w w' ∧ w'.cell? ⟨b1, off1 + i * 3, none⟩ = some (.int .i64 S) ∧ w'.cell? ⟨b1, off1 + i * 3 + 1, none⟩ = some (.int .i64 I) ∧ w'.cell? ⟨b1, off1 + i * 3 + 2, none⟩ = some (.int .i64 K) ∧ w'.cell? ⟨b2, off2 + i, none⟩ = some (.int .i64 p)) (by kernel_rfl) ?_ (fun hHeld => ?_)
                          · exact ⟨hby.out.drew, c0, c1, c2, d0⟩
                          refine wpAnyH_take (i := 0) (v := ?vregaU1_0) rfl (by kernel_rfl) (by kernel_rfl) (by kernel_rfl) (fun _ _ _ h => h) (Or.inl ⟨rfl, ?yregaU1_0⟩) (by assumption) ?_
                          case yregaU1_0 => (intro w hSw; (try dsimp only at hSw); go_simp; first | done | with_reducible rfl)
                          simp only [List.getElem_toArray, List.getElem_cons_succ, List.getElem_cons_zero, Act.put, List.setIfInBounds_toArray, List.set_cons_zero, List.set_cons_succ]
                          refine wpAnyH_take (i := 1) (v := ?vregaU1_1) rfl (by kernel_rfl) (by kernel_rfl) (by kernel_rfl) (fun _ _ _ h => h) (Or.inl ⟨rfl, ?yregaU1_1⟩) (by assumption) ?_
                          case yregaU1_1 => (intro w hSw; (try dsimp only at hSw); go_simp; first | done | with_reducible rfl)
                          simp only [List.getElem_toArray, List.getElem_cons_succ, List.getElem_cons_zero, Act.put, List.setIfInBounds_toArray, List.set_cons_zero, List.set_cons_succ]
                          refine wpAnyH_take (i := 2) (v := ?vregaU1_2) rfl (by kernel_rfl) (by kernel_rfl) (by kernel_rfl) (fun _ _ _ h => h) (Or.inl ⟨rfl, ?yregaU1_2⟩) (by assumption) ?_
                          case yregaU1_2 => (intro w hSw; (try dsimp only at hSw); go_simp; first | done | with_reducible rfl)
                          simp only [List.getElem_toArray, List.getElem_cons_succ, List.getElem_cons_zero, Act.put, List.setIfInBounds_toArray, List.set_cons_zero, List.set_cons_succ]
                          refine wpAnyH_take (i := 3) (v := ?vregaU1_3) rfl (by kernel_rfl) (by kernel_rfl) (by kernel_rfl) (fun _ _ _ h => h) (Or.inl ⟨rfl, ?yregaU1_3⟩) (by assumption) ?_
                          case yregaU1_3 => (intro w hSw; (try dsimp only at hSw); go_simp; first | done | with_reducible rfl)
                          simp only [List.getElem_toArray, List.getElem_cons_succ, List.getElem_cons_zero, Act.put, List.setIfInBounds_toArray, List.set_cons_zero, List.set_cons_succ]
                          refine wpAnyH_take (i := 4) (v := ?vregaU1_4) rfl (by kernel_rfl) (by kernel_rfl) (by kernel_rfl) (fun _ _ _ h => h) (Or.inl ⟨rfl, ?yregaU1_4⟩) (by assumption) ?_
                          case yregaU1_4 => (intro w hSw; (try dsimp only at hSw); go_simp; first | done | with_reducible rfl)
                          simp only [List.getElem_toArray, List.getElem_cons_succ, List.getElem_cons_zero, Act.put, List.setIfInBounds_toArray, List.set_cons_zero, List.set_cons_succ]
                          refine wpAnyH_take (i := 5) (v := ?vregaU1_5) rfl (by kernel_rfl) (by kernel_rfl) (by kernel_rfl) (fun _ _ _ h => h) (Or.inl ⟨rfl, ?yregaU1_5⟩) (by assumption) ?_
                          case yregaU1_5 => (intro w hSw; (try dsimp only at hSw); go_simp; first | done | with_reducible rfl)
                          simp only [List.getElem_toArray, List.getElem_cons_succ, List.getElem_cons_zero, Act.put, List.setIfInBounds_toArray, List.set_cons_zero, List.set_cons_succ]
                          refine wpAnyH_take (i := 6) (v := ?vregaU1_6) rfl (by kernel_rfl) (by kernel_rfl) (by kernel_rfl) (fun _ _ _ h => h) (Or.inl ⟨rfl, ?yregaU1_6⟩) (by assumption) ?_
                          case yregaU1_6 => (intro w hSw; (try dsimp only at hSw); go_simp; first | done | with_reducible rfl)
                          simp only [List.getElem_toArray, List.getElem_cons_succ, List.getElem_cons_zero, Act.put, List.setIfInBounds_toArray, List.set_cons_zero, List.set_cons_succ]
                          refine wpAnyH_take (i := 7) (v := ?vregaU1_7) rfl (by kernel_rfl) (by kernel_rfl) (by kernel_rfl) (fun _ _ _ h => h) (Or.inl ⟨rfl, ?yregaU1_7⟩) (by assumption) ?_
                          case yregaU1_7 => (intro w hSw; (try dsimp only at hSw); go_simp; first | done | with_reducible rfl)
                          simp only [List.getElem_toArray, List.getElem_cons_succ, List.getElem_cons_zero, Act.put, List.setIfInBounds_toArray, List.set_cons_zero, List.set_cons_succ]
                          refine wpAnyH_take (i := 8) (v := ?vregaU1_8) rfl (by kernel_rfl) (by kernel_rfl) (by kernel_rfl) (fun _ _ _ h => h) (Or.inl ⟨rfl, ?yregaU1_8⟩) (by assumption) ?_
                          case yregaU1_8 => (intro w hSw; (try dsimp only at hSw); go_simp; first | done | with_reducible rfl)
                          simp only [List.getElem_toArray, List.getElem_cons_succ, List.getElem_cons_zero, Act.put, List.setIfInBounds_toArray, List.set_cons_zero, List.set_cons_succ]
                          refine wpAnyH_take (i := 9) (v := ?vregaU1_9) rfl (by kernel_rfl) (by kernel_rfl) (by kernel_rfl) (fun _ _ _ h => h) (Or.inl ⟨rfl, ?yregaU1_9⟩) (by assumption) ?_
                          case yregaU1_9 => (intro w hSw; (try dsimp only at hSw); go_simp; first | done | with_reducible rfl)
                          simp only [List.getElem_toArray, List.getElem_cons_succ, List.getElem_cons_zero, Act.put, List.setIfInBounds_toArray, List.set_cons_zero, List.set_cons_succ]
                          refine wpAnyH_ready (rs := [10]) (by kernel_rfl) (by simp) ?_
                          refine AllReadyH.cons rfl (fun K hK => ?_) AllReadyH.nil
                          go_simp
                          refine (hm2.out _).mono ?_
                          rintro e u1 ⟨rfl, hv1⟩
                          go_wp2_with fail
                          refine hK.out _ _ ?_ (fun hHeld => ?_)
                          · exact ⟨hHeld.1.step hv1, cell_step hHeld.2.1 hv1, cell_step hHeld.2.2.1 hv1, cell_step hHeld.2.2.2.1 hv1, cell_step hHeld.2.2.2.2 hv1⟩
                          clear hK K
                          try simp only [List.getElem_toArray, List.getElem_cons_succ, List.getElem_cons_zero, Act.put, List.setIfInBounds_toArray, List.set_cons_zero, List.set_cons_succ]
                          refine wpAnyH_take (i := 11) (v := ?vregaU1_11) rfl (by kernel_rfl) (by kernel_rfl) (by kernel_rfl) (fun _ _ _ h => h) (Or.inl ⟨rfl, ?yregaU1_11⟩) (by assumption) ?_
                          case yregaU1_11 => (intro w hSw; (try dsimp only at hSw); go_simp; first | done | with_reducible rfl)
                          simp only [List.getElem_toArray, List.getElem_cons_succ, List.getElem_cons_zero, Act.put, List.setIfInBounds_toArray, List.set_cons_zero, List.set_cons_succ]
                          refine wpAnyH_take (i := 12) (v := ?vregaU1_12) rfl (by kernel_rfl) (by kernel_rfl) (by kernel_rfl) (fun _ _ _ h => h) (Or.inl ⟨rfl, ?yregaU1_12⟩) (by assumption) ?_
                          case yregaU1_12 => (intro w hSw; (try dsimp only at hSw); go_simp; first | done | with_reducible rfl)
                          simp only [List.getElem_toArray, List.getElem_cons_succ, List.getElem_cons_zero, Act.put, List.setIfInBounds_toArray, List.set_cons_zero, List.set_cons_succ]
                          refine wpAnyH_done (by kernel_rfl) ?_ _
                          have hbz := Lib.hid hHeld.1
                          clear hHeld
                          go_wp2
                          go_roundw
                          case rel => exact ⟨i + 1, by omega, by go_num, by rw [hF.out], by rw [hF.out], hbz.out⟩
                          case measure => simp [intOf]; omega
                        · have z2 : decide (fb < 0) = false := decide_eq_false hn1
                          by_cases hn2 : Q < fc
                          · have z3 : decide (Q < fc) = true := decide_eq_true hn2
                            have hF : Hid (F (i + 1) = ((i : Int), Q)) := Lib.hid (by rw [hFi.out, if_pos (.inr hn2)])
                            clear hn1 hn2
                            go_wp2_with fail
                            refine wp_region_held_drew (S := fun w' => Below w.heap.size w w' ∧ w'.cell? ⟨b1, off1 + i * 3, none⟩ = some (.int .i64 S) ∧ w'.cell? ⟨b1, off1 + i * 3 + 1, none⟩ = some (.int .i64 I) ∧ w'.cell? ⟨b1, off1 + i * 3 + 2, none⟩ = some (.int .i64 K) ∧ w'.cell? ⟨b2, off2 + i, none⟩ = some (.int .i64 p)) (by kernel_rfl) ?_ (fun hHeld => ?_)
                            · exact ⟨hby.out.drew, c0, c1, c2, d0⟩
                            refine wpAnyH_take (i := 0) (v := ?vregbU2_0) rfl (by kernel_rfl) (by kernel_rfl) (by kernel_rfl) (fun _ _ _ h => h) (Or.inl ⟨rfl, ?yregbU2_0⟩) (by assumption) ?_
                            case yregbU2_0 => (intro w hSw; (try dsimp only at hSw); go_simp; first | done | with_reducible rfl)
                            simp only [List.getElem_toArray, List.getElem_cons_succ, List.getElem_cons_zero, Act.put, List.setIfInBounds_toArray, List.set_cons_zero, List.set_cons_succ]
                            refine wpAnyH_take (i := 1) (v := ?vregbU2_1) rfl (by kernel_rfl) (by kernel_rfl) (by kernel_rfl) (fun _ _ _ h => h) (Or.inl ⟨rfl, ?yregbU2_1⟩) (by assumption) ?_
                            case yregbU2_1 => (intro w hSw; (try dsimp only at hSw); go_simp; first | done | with_reducible rfl)
                            simp only [List.getElem_toArray, List.getElem_cons_succ, List.getElem_cons_zero, Act.put, List.setIfInBounds_toArray, List.set_cons_zero, List.set_cons_succ]
                            refine wpAnyH_take (i := 2) (v := ?vregbU2_2) rfl (by kernel_rfl) (by kernel_rfl) (by kernel_rfl) (fun _ _ _ h => h) (Or.inl ⟨rfl, ?yregbU2_2⟩) (by assumption) ?_
                            case yregbU2_2 => (intro w hSw; (try dsimp only at hSw); go_simp; first | done | with_reducible rfl)
                            simp only [List.getElem_toArray, List.getElem_cons_succ, List.getElem_cons_zero, Act.put, List.setIfInBounds_toArray, List.set_cons_zero, List.set_cons_succ]
                            refine wpAnyH_take (i := 3) (v := ?vregbU2_3) rfl (by kernel_rfl) (by kernel_rfl) (by kernel_rfl) (fun _ _ _ h => h) (Or.inl ⟨rfl, ?yregbU2_3⟩) (by assumption) ?_
                            case yregbU2_3 => (intro w hSw; (try dsimp only at hSw); go_simp; first | done | with_reducible rfl)
                            simp only [List.getElem_toArray, List.getElem_cons_succ, List.getElem_cons_zero, Act.put, List.setIfInBounds_toArray, List.set_cons_zero, List.set_cons_succ]
                            refine wpAnyH_take (i := 4) (v := ?vregbU2_4) rfl (by kernel_rfl) (by kernel_rfl) (by kernel_rfl) (fun _ _ _ h => h) (Or.inl ⟨rfl, ?yregbU2_4⟩) (by assumption) ?_
                            case yregbU2_4 => (intro w hSw; (try dsimp only at hSw); go_simp; first | done | with_reducible rfl)
                            simp only [List.getElem_toArray, List.getElem_cons_succ, List.getElem_cons_zero, Act.put, List.setIfInBounds_toArray, List.set_cons_zero, List.set_cons_succ]
                            refine wpAnyH_take (i := 5) (v := ?vregbU2_5) rfl (by kernel_rfl) (by kernel_rfl) (by kernel_rfl) (fun _ _ _ h => h) (Or.inl ⟨rfl, ?yregbU2_5⟩) (by assumption) ?_
                            case yregbU2_5 => (intro w hSw; (try dsimp only at hSw); go_simp; first | done | with_reducible rfl)
                            simp only [List.getElem_toArray, List.getElem_cons_succ, List.getElem_cons_zero, Act.put, List.setIfInBounds_toArray, List.set_cons_zero, List.set_cons_succ]
                            refine wpAnyH_take (i := 6) (v := ?vregbU2_6) rfl (by kernel_rfl) (by kernel_rfl) (by kernel_rfl) (fun _ _ _ h => h) (Or.inl ⟨rfl, ?yregbU2_6⟩) (by assumption) ?_
                            case yregbU2_6 => (intro w hSw; (try dsimp only at hSw); go_simp; first | done | with_reducible rfl)
                            simp only [List.getElem_toArray, List.getElem_cons_succ, List.getElem_cons_zero, Act.put, List.setIfInBounds_toArray, List.set_cons_zero, List.set_cons_succ]
                            refine wpAnyH_take (i := 7) (v := ?vregbU2_7) rfl (by kernel_rfl) (by kernel_rfl) (by kernel_rfl) (fun _ _ _ h => h) (Or.inl ⟨rfl, ?yregbU2_7⟩) (by assumption) ?_
                            case yregbU2_7 => (intro w hSw; (try dsimp only at hSw); go_simp; first | done | with_reducible rfl)
                            simp only [List.getElem_toArray, List.getElem_cons_succ, List.getElem_cons_zero, Act.put, List.setIfInBounds_toArray, List.set_cons_zero, List.set_cons_succ]
                            refine wpAnyH_take (i := 8) (v := ?vregbU2_8) rfl (by kernel_rfl) (by kernel_rfl) (by kernel_rfl) (fun _ _ _ h => h) (Or.inl ⟨rfl, ?yregbU2_8⟩) (by assumption) ?_
                            case yregbU2_8 => (intro w hSw; (try dsimp only at hSw); go_simp; first | done | with_reducible rfl)
                            simp only [List.getElem_toArray, List.getElem_cons_succ, List.getElem_cons_zero, Act.put, List.setIfInBounds_toArray, List.set_cons_zero, List.set_cons_succ]
                            refine wpAnyH_take (i := 9) (v := ?vregbU2_9) rfl (by kernel_rfl) (by kernel_rfl) (by kernel_rfl) (fun _ _ _ h => h) (Or.inl ⟨rfl, ?yregbU2_9⟩) (by assumption) ?_
                            case yregbU2_9 => (intro w hSw; (try dsimp only at hSw); go_simp; first | done | with_reducible rfl)
                            simp only [List.getElem_toArray, List.getElem_cons_succ, List.getElem_cons_zero, Act.put, List.setIfInBounds_toArray, List.set_cons_zero, List.set_cons_succ]
                            refine wpAnyH_ready (rs := [10]) (by kernel_rfl) (by simp) ?_
                            refine AllReadyH.cons rfl (fun K hK => ?_) AllReadyH.nil
                            go_simp
                            refine (hm2.out _).mono ?_
                            rintro e u1 ⟨rfl, hv1⟩
                            go_wp2_with fail
                            refine hK.out _ _ ?_ (fun hHeld => ?_)
                            · exact ⟨hHeld.1.step hv1, cell_step hHeld.2.1 hv1, cell_step hHeld.2.2.1 hv1, cell_step hHeld.2.2.2.1 hv1, cell_step hHeld.2.2.2.2 hv1⟩
                            clear hK K
                            try simp only [List.getElem_toArray, List.getElem_cons_succ, List.getElem_cons_zero, Act.put, List.setIfInBounds_toArray, List.set_cons_zero, List.set_cons_succ]
                            refine wpAnyH_take (i := 11) (v := ?vregbU2_11) rfl (by kernel_rfl) (by kernel_rfl) (by kernel_rfl) (fun _ _ _ h => h) (Or.inl ⟨rfl, ?yregbU2_11⟩) (by assumption) ?_
                            case yregbU2_11 => (intro w hSw; (try dsimp only at hSw); go_simp; first | done | with_reducible rfl)
                            simp only [List.getElem_toArray, List.getElem_cons_succ, List.getElem_cons_zero, Act.put, List.setIfInBounds_toArray, List.set_cons_zero, List.set_cons_succ]
                            refine wpAnyH_take (i := 12) (v := ?vregbU2_12) rfl (by kernel_rfl) (by kernel_rfl) (by kernel_rfl) (fun _ _ _ h => h) (Or.inl ⟨rfl, ?yregbU2_12⟩) (by assumption) ?_
                            case yregbU2_12 => (intro w hSw; (try dsimp only at hSw); go_simp; first | done | with_reducible rfl)
                            simp only [List.getElem_toArray, List.getElem_cons_succ, List.getElem_cons_zero, Act.put, List.setIfInBounds_toArray, List.set_cons_zero, List.set_cons_succ]
                            refine wpAnyH_done (by kernel_rfl) ?_ _
                            have hbz := Lib.hid hHeld.1
                            clear hHeld
                            go_wp2
                            go_roundw
                            case rel => exact ⟨i + 1, by omega, by go_num, by rw [hF.out], by rw [hF.out], hbz.out⟩
                            case measure => simp [intOf]; omega
                          · have z3 : decide (Q < fc) = false := decide_eq_false hn2
                            have hF : Hid (F (i + 1) = F i) := Lib.hid (by rw [hFi.out, if_neg (fun h => h.elim hn1 hn2)])
                            clear hn1 hn2
                            go_wp2_with fail
                            refine wp_region_held_drew (S := fun w' => Below w.heap.size w w' ∧ w'.cell? ⟨b1, off1 + i * 3, none⟩ = some (.int .i64 S) ∧ w'.cell? ⟨b1, off1 + i * 3 + 1, none⟩ = some (.int .i64 I) ∧ w'.cell? ⟨b1, off1 + i * 3 + 2, none⟩ = some (.int .i64 K) ∧ w'.cell? ⟨b2, off2 + i, none⟩ = some (.int .i64 p)) (by kernel_rfl) ?_ (fun hHeld => ?_)
                            · exact ⟨hby.out.drew, c0, c1, c2, d0⟩
                            refine wpAnyH_take (i := 0) (v := ?vregcU3_0) rfl (by kernel_rfl) (by kernel_rfl) (by kernel_rfl) (fun _ _ _ h => h) (Or.inl ⟨rfl, ?yregcU3_0⟩) (by assumption) ?_
                            case yregcU3_0 => (intro w hSw; (try dsimp only at hSw); go_simp; first | done | with_reducible rfl)
                            simp only [List.getElem_toArray, List.getElem_cons_succ, List.getElem_cons_zero, Act.put, List.setIfInBounds_toArray, List.set_cons_zero, List.set_cons_succ]
                            refine wpAnyH_take (i := 1) (v := ?vregcU3_1) rfl (by kernel_rfl) (by kernel_rfl) (by kernel_rfl) (fun _ _ _ h => h) (Or.inl ⟨rfl, ?yregcU3_1⟩) (by assumption) ?_
                            case yregcU3_1 => (intro w hSw; (try dsimp only at hSw); go_simp; first | done | with_reducible rfl)
                            simp only [List.getElem_toArray, List.getElem_cons_succ, List.getElem_cons_zero, Act.put, List.setIfInBounds_toArray, List.set_cons_zero, List.set_cons_succ]
                            refine wpAnyH_take (i := 2) (v := ?vregcU3_2) rfl (by kernel_rfl) (by kernel_rfl) (by kernel_rfl) (fun _ _ _ h => h) (Or.inl ⟨rfl, ?yregcU3_2⟩) (by assumption) ?_
                            case yregcU3_2 => (intro w hSw; (try dsimp only at hSw); go_simp; first | done | with_reducible rfl)
                            simp only [List.getElem_toArray, List.getElem_cons_succ, List.getElem_cons_zero, Act.put, List.setIfInBounds_toArray, List.set_cons_zero, List.set_cons_succ]
                            refine wpAnyH_take (i := 3) (v := ?vregcU3_3) rfl (by kernel_rfl) (by kernel_rfl) (by kernel_rfl) (fun _ _ _ h => h) (Or.inl ⟨rfl, ?yregcU3_3⟩) (by assumption) ?_
                            case yregcU3_3 => (intro w hSw; (try dsimp only at hSw); go_simp; first | done | with_reducible rfl)
                            simp only [List.getElem_toArray, List.getElem_cons_succ, List.getElem_cons_zero, Act.put, List.setIfInBounds_toArray, List.set_cons_zero, List.set_cons_succ]
                            refine wpAnyH_take (i := 4) (v := ?vregcU3_4) rfl (by kernel_rfl) (by kernel_rfl) (by kernel_rfl) (fun _ _ _ h => h) (Or.inl ⟨rfl, ?yregcU3_4⟩) (by assumption) ?_
                            case yregcU3_4 => (intro w hSw; (try dsimp only at hSw); go_simp; first | done | with_reducible rfl)
                            simp only [List.getElem_toArray, List.getElem_cons_succ, List.getElem_cons_zero, Act.put, List.setIfInBounds_toArray, List.set_cons_zero, List.set_cons_succ]
                            refine wpAnyH_take (i := 5) (v := ?vregcU3_5) rfl (by kernel_rfl) (by kernel_rfl) (by kernel_rfl) (fun _ _ _ h => h) (Or.inl ⟨rfl, ?yregcU3_5⟩) (by assumption) ?_
                            case yregcU3_5 => (intro w hSw; (try dsimp only at hSw); go_simp; first | done | with_reducible rfl)
                            simp only [List.getElem_toArray, List.getElem_cons_succ, List.getElem_cons_zero, Act.put, List.setIfInBounds_toArray, List.set_cons_zero, List.set_cons_succ]
                            refine wpAnyH_take (i := 6) (v := ?vregcU3_6) rfl (by kernel_rfl) (by kernel_rfl) (by kernel_rfl) (fun _ _ _ h => h) (Or.inl ⟨rfl, ?yregcU3_6⟩) (by assumption) ?_
                            case yregcU3_6 => (intro w hSw; (try dsimp only at hSw); go_simp; first | done | with_reducible rfl)
                            simp only [List.getElem_toArray, List.getElem_cons_succ, List.getElem_cons_zero, Act.put, List.setIfInBounds_toArray, List.set_cons_zero, List.set_cons_succ]
                            refine wpAnyH_take (i := 7) (v := ?vregcU3_7) rfl (by kernel_rfl) (by kernel_rfl) (by kernel_rfl) (fun _ _ _ h => h) (Or.inl ⟨rfl, ?yregcU3_7⟩) (by assumption) ?_
                            case yregcU3_7 => (intro w hSw; (try dsimp only at hSw); go_simp; first | done | with_reducible rfl)
                            simp only [List.getElem_toArray, List.getElem_cons_succ, List.getElem_cons_zero, Act.put, List.setIfInBounds_toArray, List.set_cons_zero, List.set_cons_succ]
                            refine wpAnyH_take (i := 8) (v := ?vregcU3_8) rfl (by kernel_rfl) (by kernel_rfl) (by kernel_rfl) (fun _ _ _ h => h) (Or.inl ⟨rfl, ?yregcU3_8⟩) (by assumption) ?_
                            case yregcU3_8 => (intro w hSw; (try dsimp only at hSw); go_simp; first | done | with_reducible rfl)
                            simp only [List.getElem_toArray, List.getElem_cons_succ, List.getElem_cons_zero, Act.put, List.setIfInBounds_toArray, List.set_cons_zero, List.set_cons_succ]
                            refine wpAnyH_take (i := 9) (v := ?vregcU3_9) rfl (by kernel_rfl) (by kernel_rfl) (by kernel_rfl) (fun _ _ _ h => h) (Or.inl ⟨rfl, ?yregcU3_9⟩) (by assumption) ?_
                            case yregcU3_9 => (intro w hSw; (try dsimp only at hSw); go_simp; first | done | with_reducible rfl)
                            simp only [List.getElem_toArray, List.getElem_cons_succ, List.getElem_cons_zero, Act.put, List.setIfInBounds_toArray, List.set_cons_zero, List.set_cons_succ]
                            refine wpAnyH_ready (rs := [10]) (by kernel_rfl) (by simp) ?_
                            refine AllReadyH.cons rfl (fun K hK => ?_) AllReadyH.nil
                            go_simp
                            refine (hm2.out _).mono ?_
                            rintro e u1 ⟨rfl, hv1⟩
                            go_wp2_with fail
                            refine hK.out _ _ ?_ (fun hHeld => ?_)
                            · exact ⟨hHeld.1.step hv1, cell_step hHeld.2.1 hv1, cell_step hHeld.2.2.1 hv1, cell_step hHeld.2.2.2.1 hv1, cell_step hHeld.2.2.2.2 hv1⟩
                            clear hK K
                            try simp only [List.getElem_toArray, List.getElem_cons_succ, List.getElem_cons_zero, Act.put, List.setIfInBounds_toArray, List.set_cons_zero, List.set_cons_succ]
                            refine wpAnyH_take (i := 11) (v := ?vregcU3_11) rfl (by kernel_rfl) (by kernel_rfl) (by kernel_rfl) (fun _ _ _ h => h) (Or.inl ⟨rfl, ?yregcU3_11⟩) (by assumption) ?_
                            case yregcU3_11 => (intro w hSw; (try dsimp only at hSw); go_simp; first | done | with_reducible rfl)
                            simp only [List.getElem_toArray, List.getElem_cons_succ, List.getElem_cons_zero, Act.put, List.setIfInBounds_toArray, List.set_cons_zero, List.set_cons_succ]
                            refine wpAnyH_take (i := 12) (v := ?vregcU3_12) rfl (by kernel_rfl) (by kernel_rfl) (by kernel_rfl) (fun _ _ _ h => h) (Or.inl ⟨rfl, ?yregcU3_12⟩) (by assumption) ?_
                            case yregcU3_12 => (intro w hSw; (try dsimp only at hSw); go_simp; first | done | with_reducible rfl)
                            simp only [List.getElem_toArray, List.getElem_cons_succ, List.getElem_cons_zero, Act.put, List.setIfInBounds_toArray, List.set_cons_zero, List.set_cons_succ]
                            refine wpAnyH_done (by kernel_rfl) ?_ _
                            have hbz := Lib.hid hHeld.1
                            clear hHeld
                            go_wp2
                            go_roundw
                            case rel => exact ⟨i + 1, by omega, by go_num, by rw [hF.out, hfb], by rw [hF.out, hfc], hbz.out⟩
                            case measure => simp [intOf]; omega
                    · obtain rfl : i = k := by omega
                      have z0 : decide ((i : Int) < (i : Int)) = false := decide_eq_false (by omega)
                      replace hby := Lib.hid hby
                      have hrk := hrg.out i
                      by_cases hn1 : (F i).1 < 0
                      · have z2 : decide ((F i).1 < 0) = true := decide_eq_true hn1
                        have hv : Hid (q = (0, 0, 3)) := Lib.hid (by rw [hqq.out, if_pos hn1])
                        clear hn1 hrk
                        go_wp2
                        go_ret3
                        exact ⟨ret8_3 hv.out, hby.out⟩
                      · have z2 : decide ((F i).1 < 0) = false := decide_eq_false hn1
                        have hv : Hid (q = ((F i).1, (F i).2, 0)) := Lib.hid (by rw [hqq.out, if_neg hn1])
                        clear hn1 hrk
                        go_wp2
                        go_ret3
                        exact ⟨ret8_3 hv.out, hby.out⟩
            · have g3 : ((j : Int) == (k : Int)) = false := beq_eq_false_iff_ne.2 (by omega)
              have g3' : (j == k) = false := beq_eq_false_iff_ne.2 hL2
              have g3n : ((j : Int) != (k : Int)) = true := by rw [bne, g3]; rfl
              have g3n' : (j != k) = true := by rw [bne, g3']; rfl
              have hno := Lib.hid (hbad.out (fun h => hL2 (by have := h.2.1; rw [hla.out, hlb.out] at this; exact this)))
              replace hL2 := Lib.hid hL2
              go_wp2
              go_ret3
              exact ⟨ret8_3 hno.out, hbw.out⟩
          · have g2 : decide ((20 : Int) < (k : Int)) = true := decide_eq_true (by omega)
            have g2' : decide (20 < k) = true := decide_eq_true (by omega)
            have hno := Lib.hid (hbad.out (fun h => hL1 (by have := h.1; rw [hla.out] at this; exact this)))
            go_wp2
            go_ret3
            exact ⟨ret8_3 hno.out, hbw.out⟩
end Go.Proofs.YtceedmejmmoepaaDoor
