/- TextOfPresses: the program's function. -/
import Derived.Test.YtndodlfmjdgpcaaTxt1
namespace Go.Proofs.Ytndodlfmjdgpcaa
open Go.RowKit Go.ChangeMaps Go.MapKept
set_option linter.unusedVariables false
set_option linter.unusedSimpArgs false

theorem _root_.Go.RowKit.Below.low {B : Nat} {a b : World} (h : Below B a b) {N : Nat} (hN : N ≤ B) : Below N a b := h.mono hN

set_option maxRecDepth 100000 in
set_option maxHeartbeats 6400000 in
theorem txt_impl (A : Option Addr) (n c : Nat) (ks : List KeyD) (B : Option Addr) (m d : Nat) (as_ : List AccentD) (C : Option Addr) (l e : Nat) (ps : List PressD) (w : World) (h : Keys w A n ks) (hn : n ≤ 1048576) (hgk : ∀ x ∈ ks, x.good) (hAs : Accents w B m as_) (hm : m ≤ 1048576) (hga : ∀ x ∈ as_, x.good) (hPs : Presses w C l ps) (hl : l ≤ 1048576) (hgp : ∀ x ∈ ps, x.good) :
    Calls Try.prog 21 #[.slice A n n, .slice B m m, .slice C l l] w fun e w' => e = .returned (.tuple #[.string (textR ks as_ ps).1, .int .i64 (textR ks as_ ps).2]) ∧ Below w.heap.size w w' := by
  cases hv : validKb ks as_ with
  | false =>
    have hres : Hid (textR ks as_ ps = (ByteArray.empty, 1)) := Lib.hid (by rw [textR, if_neg (by simp [hv])])
    have hkb := Lib.hid (kb_no A B n n m m ks as_ _ h hAs hn hm hgk hga hv)
    rw [hres.out]
    clear hv
    go_enter Try.func21, Try.ntmps21
    go_wp2_with fail
    refine hkb.out.mono ?_
    rintro e w1 ⟨x1, x2, x3, rfl, hb1⟩
    go_wp2
    go_ret2
    exact ⟨rfl, hb1.step (below_a1 _ _)⟩
  | true =>
    have hkb := Lib.hid (kb_yes A B n n m m ks as_ _ h hAs hn hm hgk hga hv)
    cases hok : psOk n ps with
    | false =>
      have hres : Hid (textR ks as_ ps = (ByteArray.empty, 2)) := Lib.hid (by rw [textR, if_pos hv, if_neg (by rw [h.1]; simp [hok])])
      have har := fun W (hW : Presses W C l ps) => are_impl A n n C l l ps false hok W hW hn hl
      replace har := Lib.hid har
      rw [hres.out]
      clear hv hok
      go_enter Try.func21, Try.ntmps21
      go_wp2_with fail
      refine hkb.out.mono ?_
      rintro e w1 ⟨r1, r2, r3, rfl, hb1, hkis⟩
      go_wp2_with fail
      refine (har.out _ ((hPs.below hb1).below (below_a1 _ _))).mono ?_
      rintro e w2 ⟨rfl, hb2⟩
      go_wp2
      go_ret2
      exact ⟨rfl, (hb1.step (below_a1 _ _)).step hb2⟩
    | true =>
      have hyes : textR ks as_ ps = (match typeS ks as_ none ps with | some l => (⟨l.toArray⟩, 0) | none => (ByteArray.empty, 6)) := textR_of hv (by rw [h.1]; exact hok)
      have hfin : Hid (∀ acc, typeS ks as_ none ps = some acc → textR ks as_ ps = (⟨acc.toArray⟩, 0)) := Lib.hid fun acc ha => by rw [hyes, ha]
      have hbad : Hid (typeS ks as_ none ps = none → textR ks as_ ps = (ByteArray.empty, 6)) := Lib.hid fun ha => by rw [hyes, ha]
      have har := fun W (hW : Presses W C l ps) => are_impl A n n C l l ps true hok W hW hn hl
      replace har := Lib.hid har
      have hlk := h.1
      have hlp := hPs.1
      rw [psOk, Bool.and_eq_true, decide_eq_true_eq, hlp] at hok
      obtain ⟨hall, hbig⟩ := hok
      have hat : ∀ (j : Nat) (x : PressD), ps[j]? = some x → 0 ≤ x.key ∧ x.key < (n : Int) := fun j x hx => all_at hall hx
      replace hat := Lib.hid hat
      have hlet : ∀ x : PressD, 0 ≤ x.key → x.key < (n : Int) → isLet (letterOf ks x) = true := fun x q0 q1 => letter_is hv q0 (by rw [hlk]; exact q1)
      have hmade : ∀ (M N t : ByteArray), madeOf M N as_ = some t → isLet t = true := fun M N t ht => made_is hv ht
      replace hlet := Lib.hid hlet
      replace hmade := Lib.hid hmade
      clear hyes hall hv
      go_enter Try.func21, Try.ntmps21
      go_wp2_with fail
      refine hkb.out.mono ?_
      rintro e w1 ⟨r1, r2, r3, rfl, hb1, hkis⟩
      go_wp2_with fail
      obtain ⟨wb, hwb⟩ : ∃ W, w1.alloc (.cells #[.map (some r1), .map (some r2), .map (some r3)] 99) = W := ⟨_, rfl⟩
      have hbb : Below w.heap.size w wb := hwb ▸ hb1.step (below_a1 _ _)
      have hkb1 : KbIs wb r1 r2 r3 ks as_ := hwb ▸ hkis.below (below_a1 _ _)
      have c0 : wb.cell? ⟨w1.heap.size, 0, none⟩ = some (.map (some r1)) := hwb ▸ cell_new rfl rfl
      have c1 : wb.cell? ⟨w1.heap.size, 1, none⟩ = some (.map (some r2)) := hwb ▸ cell_new rfl rfl
      have c2 : wb.cell? ⟨w1.heap.size, 2, none⟩ = some (.map (some r3)) := hwb ▸ cell_new rfl rfl
      rw [hwb]
      clear hwb
      generalize w1.heap.size = Q at *
      refine (har.out _ (hPs.below hbb)).mono ?_
      rintro e w2 ⟨rfl, hb2⟩
      have hK := (h.below hbb).below hb2
      have hP := (hPs.below hbb).below hb2
      have hkb2 := hkb1.below hb2
      have d0 := cell_step c0 hb2
      have d1 := cell_step c1 hb2
      have d2 := cell_step c2 hb2
      have hbw2 := hbb.step hb2
      clear c0 c1 c2 hkb1 hkis hb1 har hPs h
      have hbN := below_a1 w2 (.cells #[.pointer none, .slice none 0 0] 105)
      have hB0 : BuiltIs w2.heap.size w2.heap.size [] (w2.alloc (.cells #[.pointer none, .slice none 0 0] 105)) := Lib.IsBuilderF.of (Lib.fresh_isBuilder 105 5 w2)
      go_wp2
      go_loopw [11, 31] (fun mv i wr => ∃ (k : Nat) (st : Option ByteArray) (acc : List UInt8), k ≤ l ∧ i = .int .i64 k ∧ mv = .string (st.getD ⟨#[]⟩) ∧ (∀ M, st = some M → isLet M = true) ∧ acc.length ≤ k ∧ BuiltIs w2.heap.size w2.heap.size acc wr ∧ Below w2.heap.size w2 wr ∧ typeS ks as_ none ps = (typeS ks as_ st (ps.drop k)).map (acc ++ ·)) (fun _ i _ => l - (intOf i).toNat)
      case atStart => exact ⟨0, none, [], by omega, rfl, rfl, (fun _ hM => by cases hM), by simp, hB0, hbN, by simp⟩
      case round =>
        rename World => wr
        obtain ⟨k, st, acc, hk, rfl, rfl, hst, hacc, hB, hbo, he⟩ := hrel
        replace he := Lib.hid he
        replace hB := Lib.hid hB
        by_cases hlt : k < l
        · obtain ⟨pb, po, x, rfl, hb, hx, x0, x1⟩ := press_at (hP.below hbo) hlt
          obtain ⟨q0, q1⟩ := hat.out k x hx.out
          have hk0 : (0 : Int) ≤ (k : Int) := Int.natCast_nonneg _
          have hk1 : (k : Int) < (l : Int) := by omega
          have hlx := hlet.out x q0 q1
          obtain ⟨i, z, hi, hz, hle, hdz⟩ := key_of (ks := ks) q0 (by rw [hlk]; exact q1)
          have hin : i < n := by omega
          have hi0 : (0 : Int) ≤ (i : Int) := Int.natCast_nonneg _
          have hi1 : (i : Int) < (n : Int) := by omega
          obtain ⟨kb, ko, z', rfl, hkb, hz', g0, g1, g2⟩ := key_at (hK.below hbo) hin
          have ez := hz'.out
          rw [hz] at ez
          cases ez
          rw [hi] at x0
          obtain ⟨wp, hwp⟩ : ∃ W, wr.alloc (.cells #[.int .i64 (i : Int), .bool x.shift] 53) = W := ⟨_, rfl⟩
          obtain ⟨P, hPp⟩ : ∃ N, wr.heap.size = N := ⟨_, rfl⟩
          have hbp : Below wr.heap.size wr wp := hwp ▸ below_a1 _ _
          have k0 := cell_step g0 hbp
          have k1 := cell_step g1 hbp
          have k2 := cell_step g2 hbp
          have p0 : wp.cell? ⟨P, 0, none⟩ = some (.int .i64 (i : Int)) := hwp ▸ cell_new hPp.symm rfl
          have p1 : wp.cell? ⟨P, 1, none⟩ = some (.bool x.shift) := hwp ▸ cell_new hPp.symm rfl
          have hBp : Hid (BuiltIs w2.heap.size w2.heap.size acc wp) := Lib.hid (hwp ▸ hB.out.alloc _)
          have hbop := hbo.step2 hbp hbo.size
          have hpr := Lib.hid fun W => print_impl z x.shift W
          rw [← hle] at hpr
          generalize hM : letterOf ks x = M at *
          replace hM := Lib.hid hM
          replace hi := Lib.hid hi
          clear hle hz hz' g0 g1 g2 q0 q1
          have hlen : Hid (M.size = 1) := Lib.hid (isLet_size hlx)
          have hwsz := hbo.size
          have hpsz := hbp.size
          cases st with
          | some m0 =>
            have hm0 := hst m0 rfl
            have hem := empty_no hm0
            clear hst
            cases hmo : madeOf m0 M as_ with
            | none =>
              have e5 : Hid ((valOf (m0, M) (madeL as_)).getD (.string ByteArray.empty) = .string ByteArray.empty) := Lib.hid (by rw [val_made_of, hmo]; rfl)
              have k5 : Hid ((valOf (m0, M) (madeL as_)).isSome = false) := Lib.hid (by rw [val_made_of, hmo]; rfl)
              have hr := Lib.hid (hbad.out (by rw [he.out, type_stop hx.out (by rw [hM.out]; exact hmo)]; rfl))
              clear hmo
              go_wp2_with fail
              clear hwp hPp
              refine wp_region_held_drew (S := fun w' => Below wp.heap.size wp w' ∧ w'.cell? ⟨kb, ko + i * 3, none⟩ = some (.string z.low) ∧ w'.cell? ⟨kb, ko + i * 3 + 1, none⟩ = some (.string z.high) ∧ w'.cell? ⟨kb, ko + i * 3 + 2, none⟩ = some (.bool z.dead) ∧ w'.cell? ⟨P, 0, none⟩ = some (.int .i64 (i : Int)) ∧ w'.cell? ⟨P, 1, none⟩ = some (.bool x.shift)) (by kernel_rfl) ?_ (fun hHeld => ?_)
              · exact ⟨(Below.refl _ _).drew, k0, k1, k2, p0, p1⟩
              refine wpAnyH_take (i := 0) (v := ?va0) rfl (by kernel_rfl) (by kernel_rfl) (by kernel_rfl) (fun _ _ _ h => h) (Or.inl ⟨rfl, ?ya0⟩) (by assumption) ?_
              case ya0 => (intro w hSw; (try dsimp only at hSw); go_simp; first | done | with_reducible rfl)
              simp only [List.getElem_toArray, List.getElem_cons_succ, List.getElem_cons_zero, Act.put, List.setIfInBounds_toArray, List.set_cons_zero, List.set_cons_succ]
              refine wpAnyH_take (i := 1) (v := ?va1) rfl (by kernel_rfl) (by kernel_rfl) (by kernel_rfl) (fun _ _ _ h => h) (Or.inl ⟨rfl, ?ya1⟩) (by assumption) ?_
              case ya1 => (intro w hSw; (try dsimp only at hSw); go_simp; first | done | with_reducible rfl)
              simp only [List.getElem_toArray, List.getElem_cons_succ, List.getElem_cons_zero, Act.put, List.setIfInBounds_toArray, List.set_cons_zero, List.set_cons_succ]
              refine wpAnyH_take (i := 2) (v := ?va2) rfl (by kernel_rfl) (by kernel_rfl) (by kernel_rfl) (fun _ _ _ h => h) (Or.inl ⟨rfl, ?ya2⟩) (by assumption) ?_
              case ya2 => (intro w hSw; (try dsimp only at hSw); go_simp; first | done | with_reducible rfl)
              simp only [List.getElem_toArray, List.getElem_cons_succ, List.getElem_cons_zero, Act.put, List.setIfInBounds_toArray, List.set_cons_zero, List.set_cons_succ]
              refine wpAnyH_take (i := 3) (v := ?va3) rfl (by kernel_rfl) (by kernel_rfl) (by kernel_rfl) (fun _ _ _ h => h) (Or.inl ⟨rfl, ?ya3⟩) (by assumption) ?_
              case ya3 => (intro w hSw; (try dsimp only at hSw); go_simp; first | done | with_reducible rfl)
              simp only [List.getElem_toArray, List.getElem_cons_succ, List.getElem_cons_zero, Act.put, List.setIfInBounds_toArray, List.set_cons_zero, List.set_cons_succ]
              refine wpAnyH_take (i := 4) (v := ?va4) rfl (by kernel_rfl) (by kernel_rfl) (by kernel_rfl) (fun _ _ _ h => h) (Or.inl ⟨rfl, ?ya4⟩) (by assumption) ?_
              case ya4 => (intro w hSw; (try dsimp only at hSw); go_simp; first | done | with_reducible rfl)
              simp only [List.getElem_toArray, List.getElem_cons_succ, List.getElem_cons_zero, Act.put, List.setIfInBounds_toArray, List.set_cons_zero, List.set_cons_succ]
              refine wpAnyH_take (i := 5) (v := ?va5) rfl (by kernel_rfl) (by kernel_rfl) (by kernel_rfl) (fun _ _ _ h => h) (Or.inl ⟨rfl, ?ya5⟩) (by assumption) ?_
              case ya5 => (intro w hSw; (try dsimp only at hSw); go_simp; first | done | with_reducible rfl)
              simp only [List.getElem_toArray, List.getElem_cons_succ, List.getElem_cons_zero, Act.put, List.setIfInBounds_toArray, List.set_cons_zero, List.set_cons_succ]
              refine wpAnyH_take (i := 6) (v := ?va6) rfl (by kernel_rfl) (by kernel_rfl) (by kernel_rfl) (fun _ _ _ h => h) (Or.inl ⟨rfl, ?ya6⟩) (by assumption) ?_
              case ya6 => (intro w hSw; (try dsimp only at hSw); go_simp; first | done | with_reducible rfl)
              simp only [List.getElem_toArray, List.getElem_cons_succ, List.getElem_cons_zero, Act.put, List.setIfInBounds_toArray, List.set_cons_zero, List.set_cons_succ]
              refine wpAnyH_ready (rs := [7]) (by kernel_rfl) (by simp) ?_
              refine AllReadyH.cons rfl (fun K hK => ?_) AllReadyH.nil
              go_simp
              refine (hpr.out _).mono ?_
              rintro e w1 ⟨rfl, hb1⟩
              go_wp2_with fail
              refine hK.out _ _ ?_ (fun hHeld => ?_)
              · exact kept5 (by assumption) hb1
              clear hK K hb1
              try simp only [List.getElem_toArray, List.getElem_cons_succ, List.getElem_cons_zero, Act.put, List.setIfInBounds_toArray, List.set_cons_zero, List.set_cons_succ]
              refine wpAnyH_take (i := 8) (v := ?va8) rfl (by kernel_rfl) (by kernel_rfl) (by kernel_rfl) (fun _ _ _ h => h) (Or.inl ⟨rfl, ?ya8⟩) (by assumption) ?_
              case ya8 => (intro w hSw; (try dsimp only at hSw); go_simp; first | done | with_reducible rfl)
              simp only [List.getElem_toArray, List.getElem_cons_succ, List.getElem_cons_zero, Act.put, List.setIfInBounds_toArray, List.set_cons_zero, List.set_cons_succ]
              refine wpAnyH_done (by kernel_rfl) ?_ _
              obtain ⟨h3, t0, t1, t2, t3, t4⟩ := hHeld
              have hB3 := Lib.hid (hBp.out.below h3)
              have hbo3 := hbop.step2 h3 (Nat.le_trans hwsz hpsz)
              have f0 := cell_step d0 hbo3
              have f1 := cell_step d1 hbo3
              have f2 := cell_step d2 hbo3
              have hkb3 := hkb2.below hbo3
              have hsz3 := Nat.le_trans (Nat.le_trans hwsz hpsz) h3.size
              go_wp2_with (at_lookup; refine wpList_look_is rfl _ _ _ 109 9 rfl ovKey Try.underlying96 (zero_str _) rfl hkb3.2.1 (m0, M) rfl e5.out k5.out ?_)
              rw [hr.out]
              go_ret2
              exact ⟨rfl, hbw2.trans (hbo3.mono hbw2.size)⟩
            | some t =>
              have e5 : Hid ((valOf (m0, M) (madeL as_)).getD (.string ByteArray.empty) = .string t) := Lib.hid (by rw [val_made_of, hmo]; rfl)
              have k5 : Hid ((valOf (m0, M) (madeL as_)).isSome = true) := Lib.hid (by rw [val_made_of, hmo]; rfl)
              have hnx := Lib.hid (he.out.trans (by rw [type_some hx.out (by rw [hM.out]; exact hmo), map_map]))
              have hts : t.size = 1 := isLet_size (hmade.out _ _ _ hmo)
              have hln : Hid ((acc ++ t.data.toList).length ≤ k + 1) := Lib.hid (by
                have h9 : t.data.toList.length = 1 := by
                  rw [Array.length_toList]
                  exact hts
                rw [List.length_append, h9]
                omega)
              clear hmo
              go_wp2_with fail
              clear hwp hPp
              refine wp_region_held_drew (S := fun w' => Below wp.heap.size wp w' ∧ w'.cell? ⟨kb, ko + i * 3, none⟩ = some (.string z.low) ∧ w'.cell? ⟨kb, ko + i * 3 + 1, none⟩ = some (.string z.high) ∧ w'.cell? ⟨kb, ko + i * 3 + 2, none⟩ = some (.bool z.dead) ∧ w'.cell? ⟨P, 0, none⟩ = some (.int .i64 (i : Int)) ∧ w'.cell? ⟨P, 1, none⟩ = some (.bool x.shift)) (by kernel_rfl) ?_ (fun hHeld => ?_)
              · exact ⟨(Below.refl _ _).drew, k0, k1, k2, p0, p1⟩
              refine wpAnyH_take (i := 0) (v := ?vb0) rfl (by kernel_rfl) (by kernel_rfl) (by kernel_rfl) (fun _ _ _ h => h) (Or.inl ⟨rfl, ?yb0⟩) (by assumption) ?_
              case yb0 => (intro w hSw; (try dsimp only at hSw); go_simp; first | done | with_reducible rfl)
              simp only [List.getElem_toArray, List.getElem_cons_succ, List.getElem_cons_zero, Act.put, List.setIfInBounds_toArray, List.set_cons_zero, List.set_cons_succ]
              refine wpAnyH_take (i := 1) (v := ?vb1) rfl (by kernel_rfl) (by kernel_rfl) (by kernel_rfl) (fun _ _ _ h => h) (Or.inl ⟨rfl, ?yb1⟩) (by assumption) ?_
              case yb1 => (intro w hSw; (try dsimp only at hSw); go_simp; first | done | with_reducible rfl)
              simp only [List.getElem_toArray, List.getElem_cons_succ, List.getElem_cons_zero, Act.put, List.setIfInBounds_toArray, List.set_cons_zero, List.set_cons_succ]
              refine wpAnyH_take (i := 2) (v := ?vb2) rfl (by kernel_rfl) (by kernel_rfl) (by kernel_rfl) (fun _ _ _ h => h) (Or.inl ⟨rfl, ?yb2⟩) (by assumption) ?_
              case yb2 => (intro w hSw; (try dsimp only at hSw); go_simp; first | done | with_reducible rfl)
              simp only [List.getElem_toArray, List.getElem_cons_succ, List.getElem_cons_zero, Act.put, List.setIfInBounds_toArray, List.set_cons_zero, List.set_cons_succ]
              refine wpAnyH_take (i := 3) (v := ?vb3) rfl (by kernel_rfl) (by kernel_rfl) (by kernel_rfl) (fun _ _ _ h => h) (Or.inl ⟨rfl, ?yb3⟩) (by assumption) ?_
              case yb3 => (intro w hSw; (try dsimp only at hSw); go_simp; first | done | with_reducible rfl)
              simp only [List.getElem_toArray, List.getElem_cons_succ, List.getElem_cons_zero, Act.put, List.setIfInBounds_toArray, List.set_cons_zero, List.set_cons_succ]
              refine wpAnyH_take (i := 4) (v := ?vb4) rfl (by kernel_rfl) (by kernel_rfl) (by kernel_rfl) (fun _ _ _ h => h) (Or.inl ⟨rfl, ?yb4⟩) (by assumption) ?_
              case yb4 => (intro w hSw; (try dsimp only at hSw); go_simp; first | done | with_reducible rfl)
              simp only [List.getElem_toArray, List.getElem_cons_succ, List.getElem_cons_zero, Act.put, List.setIfInBounds_toArray, List.set_cons_zero, List.set_cons_succ]
              refine wpAnyH_take (i := 5) (v := ?vb5) rfl (by kernel_rfl) (by kernel_rfl) (by kernel_rfl) (fun _ _ _ h => h) (Or.inl ⟨rfl, ?yb5⟩) (by assumption) ?_
              case yb5 => (intro w hSw; (try dsimp only at hSw); go_simp; first | done | with_reducible rfl)
              simp only [List.getElem_toArray, List.getElem_cons_succ, List.getElem_cons_zero, Act.put, List.setIfInBounds_toArray, List.set_cons_zero, List.set_cons_succ]
              refine wpAnyH_take (i := 6) (v := ?vb6) rfl (by kernel_rfl) (by kernel_rfl) (by kernel_rfl) (fun _ _ _ h => h) (Or.inl ⟨rfl, ?yb6⟩) (by assumption) ?_
              case yb6 => (intro w hSw; (try dsimp only at hSw); go_simp; first | done | with_reducible rfl)
              simp only [List.getElem_toArray, List.getElem_cons_succ, List.getElem_cons_zero, Act.put, List.setIfInBounds_toArray, List.set_cons_zero, List.set_cons_succ]
              refine wpAnyH_ready (rs := [7]) (by kernel_rfl) (by simp) ?_
              refine AllReadyH.cons rfl (fun K hK => ?_) AllReadyH.nil
              go_simp
              refine (hpr.out _).mono ?_
              rintro e w1 ⟨rfl, hb1⟩
              go_wp2_with fail
              refine hK.out _ _ ?_ (fun hHeld => ?_)
              · exact kept5 (by assumption) hb1
              clear hK K hb1
              try simp only [List.getElem_toArray, List.getElem_cons_succ, List.getElem_cons_zero, Act.put, List.setIfInBounds_toArray, List.set_cons_zero, List.set_cons_succ]
              refine wpAnyH_take (i := 8) (v := ?vb8) rfl (by kernel_rfl) (by kernel_rfl) (by kernel_rfl) (fun _ _ _ h => h) (Or.inl ⟨rfl, ?yb8⟩) (by assumption) ?_
              case yb8 => (intro w hSw; (try dsimp only at hSw); go_simp; first | done | with_reducible rfl)
              simp only [List.getElem_toArray, List.getElem_cons_succ, List.getElem_cons_zero, Act.put, List.setIfInBounds_toArray, List.set_cons_zero, List.set_cons_succ]
              refine wpAnyH_done (by kernel_rfl) ?_ _
              obtain ⟨h3, t0, t1, t2, t3, t4⟩ := hHeld
              have hB3 := Lib.hid (hBp.out.below h3)
              have hbo3 := hbop.step2 h3 (Nat.le_trans hwsz hpsz)
              have f0 := cell_step d0 hbo3
              have f1 := cell_step d1 hbo3
              have f2 := cell_step d2 hbo3
              have hkb3 := hkb2.below hbo3
              have hsz3 := Nat.le_trans (Nat.le_trans hwsz hpsz) h3.size
              have hwr := Lib.hid (write_string w2.heap.size w2.heap.size acc t w1 hB3.out (by omega) hsz3)
              go_wp2_with (at_lookup; refine wpList_look_is rfl _ _ _ 109 9 rfl ovKey Try.underlying96 (zero_str _) rfl hkb3.2.1 (m0, M) rfl e5.out k5.out ?_)
              refine hwr.out.mono ?_
              rintro e w3 ⟨rfl, hB4, hb4, _⟩
              replace hB4 := Lib.hid hB4
              go_wp2
              go_roundw
              case rel => exact ⟨k + 1, none, acc ++ t.data.toList, by omega, by go_num, rfl, (fun _ hM => by cases hM), hln.out, hB4.out, hbo3.trans hb4, hnx.out⟩
              case measure => simp [intOf]; omega
          | none =>
            cases hd : z.dead with
            | true =>
              have hnx := Lib.hid (he.out.trans (by rw [type_dead hx.out (hdz.trans hd), hM.out]))
              replace hd := Lib.hid hd
              clear hst
              go_wp2_with fail
              clear hwp hPp
              refine wp_region_held_drew (S := fun w' => Below wp.heap.size wp w' ∧ w'.cell? ⟨kb, ko + i * 3, none⟩ = some (.string z.low) ∧ w'.cell? ⟨kb, ko + i * 3 + 1, none⟩ = some (.string z.high) ∧ w'.cell? ⟨kb, ko + i * 3 + 2, none⟩ = some (.bool z.dead) ∧ w'.cell? ⟨P, 0, none⟩ = some (.int .i64 (i : Int)) ∧ w'.cell? ⟨P, 1, none⟩ = some (.bool x.shift)) (by kernel_rfl) ?_ (fun hHeld => ?_)
              · exact ⟨(Below.refl _ _).drew, k0, k1, k2, p0, p1⟩
              refine wpAnyH_take (i := 0) (v := ?vc0) rfl (by kernel_rfl) (by kernel_rfl) (by kernel_rfl) (fun _ _ _ h => h) (Or.inl ⟨rfl, ?yc0⟩) (by assumption) ?_
              case yc0 => (intro w hSw; (try dsimp only at hSw); go_simp; first | done | with_reducible rfl)
              simp only [List.getElem_toArray, List.getElem_cons_succ, List.getElem_cons_zero, Act.put, List.setIfInBounds_toArray, List.set_cons_zero, List.set_cons_succ]
              refine wpAnyH_take (i := 1) (v := ?vc1) rfl (by kernel_rfl) (by kernel_rfl) (by kernel_rfl) (fun _ _ _ h => h) (Or.inl ⟨rfl, ?yc1⟩) (by assumption) ?_
              case yc1 => (intro w hSw; (try dsimp only at hSw); go_simp; first | done | with_reducible rfl)
              simp only [List.getElem_toArray, List.getElem_cons_succ, List.getElem_cons_zero, Act.put, List.setIfInBounds_toArray, List.set_cons_zero, List.set_cons_succ]
              refine wpAnyH_take (i := 2) (v := ?vc2) rfl (by kernel_rfl) (by kernel_rfl) (by kernel_rfl) (fun _ _ _ h => h) (Or.inl ⟨rfl, ?yc2⟩) (by assumption) ?_
              case yc2 => (intro w hSw; (try dsimp only at hSw); go_simp; first | done | with_reducible rfl)
              simp only [List.getElem_toArray, List.getElem_cons_succ, List.getElem_cons_zero, Act.put, List.setIfInBounds_toArray, List.set_cons_zero, List.set_cons_succ]
              refine wpAnyH_take (i := 3) (v := ?vc3) rfl (by kernel_rfl) (by kernel_rfl) (by kernel_rfl) (fun _ _ _ h => h) (Or.inl ⟨rfl, ?yc3⟩) (by assumption) ?_
              case yc3 => (intro w hSw; (try dsimp only at hSw); go_simp; first | done | with_reducible rfl)
              simp only [List.getElem_toArray, List.getElem_cons_succ, List.getElem_cons_zero, Act.put, List.setIfInBounds_toArray, List.set_cons_zero, List.set_cons_succ]
              refine wpAnyH_take (i := 4) (v := ?vc4) rfl (by kernel_rfl) (by kernel_rfl) (by kernel_rfl) (fun _ _ _ h => h) (Or.inl ⟨rfl, ?yc4⟩) (by assumption) ?_
              case yc4 => (intro w hSw; (try dsimp only at hSw); go_simp; first | done | with_reducible rfl)
              simp only [List.getElem_toArray, List.getElem_cons_succ, List.getElem_cons_zero, Act.put, List.setIfInBounds_toArray, List.set_cons_zero, List.set_cons_succ]
              refine wpAnyH_take (i := 5) (v := ?vc5) rfl (by kernel_rfl) (by kernel_rfl) (by kernel_rfl) (fun _ _ _ h => h) (Or.inl ⟨rfl, ?yc5⟩) (by assumption) ?_
              case yc5 => (intro w hSw; (try dsimp only at hSw); go_simp; first | done | with_reducible rfl)
              simp only [List.getElem_toArray, List.getElem_cons_succ, List.getElem_cons_zero, Act.put, List.setIfInBounds_toArray, List.set_cons_zero, List.set_cons_succ]
              refine wpAnyH_take (i := 6) (v := ?vc6) rfl (by kernel_rfl) (by kernel_rfl) (by kernel_rfl) (fun _ _ _ h => h) (Or.inl ⟨rfl, ?yc6⟩) (by assumption) ?_
              case yc6 => (intro w hSw; (try dsimp only at hSw); go_simp; first | done | with_reducible rfl)
              simp only [List.getElem_toArray, List.getElem_cons_succ, List.getElem_cons_zero, Act.put, List.setIfInBounds_toArray, List.set_cons_zero, List.set_cons_succ]
              refine wpAnyH_ready (rs := [7]) (by kernel_rfl) (by simp) ?_
              refine AllReadyH.cons rfl (fun K hK => ?_) AllReadyH.nil
              go_simp
              refine (hpr.out _).mono ?_
              rintro e w1 ⟨rfl, hb1⟩
              go_wp2_with fail
              refine hK.out _ _ ?_ (fun hHeld => ?_)
              · exact kept5 (by assumption) hb1
              clear hK K hb1
              try simp only [List.getElem_toArray, List.getElem_cons_succ, List.getElem_cons_zero, Act.put, List.setIfInBounds_toArray, List.set_cons_zero, List.set_cons_succ]
              refine wpAnyH_take (i := 8) (v := ?vc8) rfl (by kernel_rfl) (by kernel_rfl) (by kernel_rfl) (fun _ _ _ h => h) (Or.inl ⟨rfl, ?yc8⟩) (by assumption) ?_
              case yc8 => (intro w hSw; (try dsimp only at hSw); go_simp; first | done | with_reducible rfl)
              simp only [List.getElem_toArray, List.getElem_cons_succ, List.getElem_cons_zero, Act.put, List.setIfInBounds_toArray, List.set_cons_zero, List.set_cons_succ]
              refine wpAnyH_done (by kernel_rfl) ?_ _
              obtain ⟨h3, t0, t1, t2, t3, t4⟩ := hHeld
              have hB3 := Lib.hid (hBp.out.below h3)
              have hbo3 := hbop.step2 h3 (Nat.le_trans hwsz hpsz)
              have f0 := cell_step d0 hbo3
              have f1 := cell_step d1 hbo3
              have f2 := cell_step d2 hbo3
              have hkb3 := hkb2.below hbo3
              have hsz3 := Nat.le_trans (Nat.le_trans hwsz hpsz) h3.size
              rw [hd.out] at t2
              go_wp2
              go_roundw
              case rel => exact ⟨k + 1, some M, acc, by omega, by go_num, rfl, (fun _ hh => by cases hh; exact hlx), by omega, hB3.out, hbo3, hnx.out⟩
              case measure => simp [intOf]; omega
            | false =>
              have hnx := Lib.hid (he.out.trans (by rw [type_none hx.out (hdz.trans hd), hM.out, map_map]))
              replace hd := Lib.hid hd
              have hln : Hid ((acc ++ M.data.toList).length ≤ k + 1) := Lib.hid (by
                have h9 : M.data.toList.length = 1 := by
                  rw [Array.length_toList]
                  exact hlen.out
                rw [List.length_append, h9]
                omega)
              clear hst
              go_wp2_with fail
              clear hwp hPp
              refine wp_region_held_drew (S := fun w' => Below wp.heap.size wp w' ∧ w'.cell? ⟨kb, ko + i * 3, none⟩ = some (.string z.low) ∧ w'.cell? ⟨kb, ko + i * 3 + 1, none⟩ = some (.string z.high) ∧ w'.cell? ⟨kb, ko + i * 3 + 2, none⟩ = some (.bool z.dead) ∧ w'.cell? ⟨P, 0, none⟩ = some (.int .i64 (i : Int)) ∧ w'.cell? ⟨P, 1, none⟩ = some (.bool x.shift)) (by kernel_rfl) ?_ (fun hHeld => ?_)
              · exact ⟨(Below.refl _ _).drew, k0, k1, k2, p0, p1⟩
              refine wpAnyH_take (i := 0) (v := ?vd0) rfl (by kernel_rfl) (by kernel_rfl) (by kernel_rfl) (fun _ _ _ h => h) (Or.inl ⟨rfl, ?yd0⟩) (by assumption) ?_
              case yd0 => (intro w hSw; (try dsimp only at hSw); go_simp; first | done | with_reducible rfl)
              simp only [List.getElem_toArray, List.getElem_cons_succ, List.getElem_cons_zero, Act.put, List.setIfInBounds_toArray, List.set_cons_zero, List.set_cons_succ]
              refine wpAnyH_take (i := 1) (v := ?vd1) rfl (by kernel_rfl) (by kernel_rfl) (by kernel_rfl) (fun _ _ _ h => h) (Or.inl ⟨rfl, ?yd1⟩) (by assumption) ?_
              case yd1 => (intro w hSw; (try dsimp only at hSw); go_simp; first | done | with_reducible rfl)
              simp only [List.getElem_toArray, List.getElem_cons_succ, List.getElem_cons_zero, Act.put, List.setIfInBounds_toArray, List.set_cons_zero, List.set_cons_succ]
              refine wpAnyH_take (i := 2) (v := ?vd2) rfl (by kernel_rfl) (by kernel_rfl) (by kernel_rfl) (fun _ _ _ h => h) (Or.inl ⟨rfl, ?yd2⟩) (by assumption) ?_
              case yd2 => (intro w hSw; (try dsimp only at hSw); go_simp; first | done | with_reducible rfl)
              simp only [List.getElem_toArray, List.getElem_cons_succ, List.getElem_cons_zero, Act.put, List.setIfInBounds_toArray, List.set_cons_zero, List.set_cons_succ]
              refine wpAnyH_take (i := 3) (v := ?vd3) rfl (by kernel_rfl) (by kernel_rfl) (by kernel_rfl) (fun _ _ _ h => h) (Or.inl ⟨rfl, ?yd3⟩) (by assumption) ?_
              case yd3 => (intro w hSw; (try dsimp only at hSw); go_simp; first | done | with_reducible rfl)
              simp only [List.getElem_toArray, List.getElem_cons_succ, List.getElem_cons_zero, Act.put, List.setIfInBounds_toArray, List.set_cons_zero, List.set_cons_succ]
              refine wpAnyH_take (i := 4) (v := ?vd4) rfl (by kernel_rfl) (by kernel_rfl) (by kernel_rfl) (fun _ _ _ h => h) (Or.inl ⟨rfl, ?yd4⟩) (by assumption) ?_
              case yd4 => (intro w hSw; (try dsimp only at hSw); go_simp; first | done | with_reducible rfl)
              simp only [List.getElem_toArray, List.getElem_cons_succ, List.getElem_cons_zero, Act.put, List.setIfInBounds_toArray, List.set_cons_zero, List.set_cons_succ]
              refine wpAnyH_take (i := 5) (v := ?vd5) rfl (by kernel_rfl) (by kernel_rfl) (by kernel_rfl) (fun _ _ _ h => h) (Or.inl ⟨rfl, ?yd5⟩) (by assumption) ?_
              case yd5 => (intro w hSw; (try dsimp only at hSw); go_simp; first | done | with_reducible rfl)
              simp only [List.getElem_toArray, List.getElem_cons_succ, List.getElem_cons_zero, Act.put, List.setIfInBounds_toArray, List.set_cons_zero, List.set_cons_succ]
              refine wpAnyH_take (i := 6) (v := ?vd6) rfl (by kernel_rfl) (by kernel_rfl) (by kernel_rfl) (fun _ _ _ h => h) (Or.inl ⟨rfl, ?yd6⟩) (by assumption) ?_
              case yd6 => (intro w hSw; (try dsimp only at hSw); go_simp; first | done | with_reducible rfl)
              simp only [List.getElem_toArray, List.getElem_cons_succ, List.getElem_cons_zero, Act.put, List.setIfInBounds_toArray, List.set_cons_zero, List.set_cons_succ]
              refine wpAnyH_ready (rs := [7]) (by kernel_rfl) (by simp) ?_
              refine AllReadyH.cons rfl (fun K hK => ?_) AllReadyH.nil
              go_simp
              refine (hpr.out _).mono ?_
              rintro e w1 ⟨rfl, hb1⟩
              go_wp2_with fail
              refine hK.out _ _ ?_ (fun hHeld => ?_)
              · exact kept5 (by assumption) hb1
              clear hK K hb1
              try simp only [List.getElem_toArray, List.getElem_cons_succ, List.getElem_cons_zero, Act.put, List.setIfInBounds_toArray, List.set_cons_zero, List.set_cons_succ]
              refine wpAnyH_take (i := 8) (v := ?vd8) rfl (by kernel_rfl) (by kernel_rfl) (by kernel_rfl) (fun _ _ _ h => h) (Or.inl ⟨rfl, ?yd8⟩) (by assumption) ?_
              case yd8 => (intro w hSw; (try dsimp only at hSw); go_simp; first | done | with_reducible rfl)
              simp only [List.getElem_toArray, List.getElem_cons_succ, List.getElem_cons_zero, Act.put, List.setIfInBounds_toArray, List.set_cons_zero, List.set_cons_succ]
              refine wpAnyH_done (by kernel_rfl) ?_ _
              obtain ⟨h3, t0, t1, t2, t3, t4⟩ := hHeld
              have hB3 := Lib.hid (hBp.out.below h3)
              have hbo3 := hbop.step2 h3 (Nat.le_trans hwsz hpsz)
              have f0 := cell_step d0 hbo3
              have f1 := cell_step d1 hbo3
              have f2 := cell_step d2 hbo3
              have hkb3 := hkb2.below hbo3
              have hsz3 := Nat.le_trans (Nat.le_trans hwsz hpsz) h3.size
              rw [hd.out] at t2
              have hwr := Lib.hid (write_string w2.heap.size w2.heap.size acc M w1 hB3.out (by have := hlen.out; omega) hsz3)
              go_wp2_with fail
              refine hwr.out.mono ?_
              rintro e w3 ⟨rfl, hB4, hb4, _⟩
              replace hB4 := Lib.hid hB4
              go_wp2
              go_roundw
              case rel => exact ⟨k + 1, none, acc ++ M.data.toList, by omega, by go_num, rfl, (fun _ hM => by cases hM), hln.out, hB4.out, hbo3.trans hb4, hnx.out⟩
              case measure => simp [intOf]; omega
        · obtain rfl : k = l := by omega
          cases st with
          | some m0 =>
            have hem := empty_no (hst m0 rfl)
            have hr := Lib.hid (hbad.out (by rw [he.out, type_cut (by rw [hlp]; exact Nat.le_refl _)]; rfl))
            clear hst
            go_wp2
            rw [hr.out]
            go_ret2
            exact ⟨rfl, hbw2.trans (hbo.mono hbw2.size)⟩
          | none =>
            have hr := Lib.hid (hfin.out acc (by rw [he.out, type_end (by rw [hlp]; exact Nat.le_refl _)]; simp))
            have hsb := Lib.hid (Try.Builder_String_any_f w2.heap.size w2.heap.size acc wr hB.out hbo.size)
            clear hst
            go_wp2_with fail
            refine hsb.out.mono ?_
            rintro e w3 ⟨rfl, _, hb3⟩
            go_wp2
            rw [hr.out]
            go_ret2
            exact ⟨rfl, (hbw2.trans (hbo.mono hbw2.size)).trans (hb3.mono hbw2.size)⟩
end Go.Proofs.Ytndodlfmjdgpcaa
