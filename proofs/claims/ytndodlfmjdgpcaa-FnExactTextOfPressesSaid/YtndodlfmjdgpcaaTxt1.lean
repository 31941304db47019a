/- TextOfPresses: the model's function. -/
import Derived.Test.YtndodlfmjdgpcaaTxt0
import Derived.Test.YtndodlfmjdgpcaaPressOpen
import Derived.Deep.RegionHeld3
namespace Go.Proofs.Ytndodlfmjdgpcaa
open Go.RowKit Go.ChangeMaps Go.MapKept
set_option linter.unusedVariables false
set_option linter.unusedSimpArgs false

theorem empty_no {s : ByteArray} (h : isLet s = true) : s.toList.isEmpty = false := by
  obtain ⟨z, rfl, _⟩ := isLet_is h
  rw [ByteArray.toList_eq]
  rfl
theorem cat_is (acc : List UInt8) (t : ByteArray) : (⟨acc.toArray⟩ : ByteArray) ++ t = ⟨(acc ++ t.data.toList).toArray⟩ := by
  apply ByteArray.ext
  apply Array.toList_inj.1
  rw [ByteArray.data_append, Array.toList_append]

set_option maxRecDepth 100000 in
set_option maxHeartbeats 6400000 in
theorem txt_spec (A : Option Addr) (n c : Nat) (ks : List KeyD) (B : Option Addr) (m d : Nat) (as_ : List AccentD) (C : Option Addr) (l e : Nat) (ps : List PressD) (w : World) (h : Keys w A n ks) (hn : n ≤ 1048576) (hgk : ∀ x ∈ ks, x.good) (hAs : Accents w B m as_) (hm : m ≤ 1048576) (hga : ∀ x ∈ as_, x.good) (hPs : Presses w C l ps) (hl : l ≤ 1048576) (hgp : ∀ x ∈ ps, x.good) :
    Calls Try.prog 22 #[.slice A n n, .slice B m m, .slice C l l] w fun e w' => e = .returned (.tuple #[.string (textR ks as_ ps).1, .int .i64 (textR ks as_ ps).2]) ∧ Below w.heap.size w w' := by
  have hcode := ok_keys A B n n m m ks as_ w h hAs hn hm (Nat.le_refl _) hgk hga
  cases hv : validKb ks as_ with
  | false =>
    have hres : Hid (textR ks as_ ps = (ByteArray.empty, 1)) := Lib.hid (by rw [textR, if_neg (by simp [hv])])
    rw [hv] at hcode
    rw [hres.out]
    replace hcode := Lib.hid hcode
    clear hv
    go_enter Try.func22, Try.ntmps22
    go_wp2_with fail
    refine hcode.out.mono ?_
    rintro e w1 ⟨rfl, hb1⟩
    go_wp2
    go_ret2
    exact ⟨rfl, hb1⟩
  | true =>
    rw [hv] at hcode
    have hno : Hid (psOk n ps = false → textR ks as_ ps = (ByteArray.empty, 2)) := Lib.hid fun hp => by rw [textR, if_pos hv, if_neg (by rw [h.1]; simp [hp])]
    have hyes : Hid (psOk n ps = true → textR ks as_ ps = (match typeS ks as_ none ps with | some l => (⟨l.toArray⟩, 0) | none => (ByteArray.empty, 6))) := Lib.hid fun hp => textR_of hv (by rw [h.1]; exact hp)
    replace hcode := Lib.hid hcode
    replace hv := Lib.hid hv
    have hlk := h.1
    have hla := hAs.1
    have hlp := hPs.1
    go_enter Try.func22, Try.ntmps22
    go_wp2_with fail
    refine hcode.out.mono ?_
    rintro e w1 ⟨rfl, hb1⟩
    have hK := h.below hb1
    have hA1 := hAs.below hb1
    have hP1 := hPs.below hb1
    clear h hAs hPs
    go_wp2
    go_loopw [8] (fun i wr => ∃ k : Nat, k ≤ l ∧ i = .int .i64 k ∧ wr = w1 ∧ (ps.take k).all (onKeys n) = true) (fun i _ => l - (intOf i).toNat)
    case atStart => exact ⟨0, by omega, rfl, rfl, rfl⟩
    case round =>
      obtain ⟨k, hk, rfl, rfl, hall⟩ := hrel
      replace hall := Lib.hid hall
      by_cases hlt : k < l
      · obtain ⟨b, off, x, rfl, hb, hx, c0, c1⟩ := press_at hP1 hlt
        have hk0 : (0 : Int) ≤ (k : Int) := Int.natCast_nonneg _
        have hk1 : (k : Int) < (l : Int) := by omega
        have hwr : IntKind.i64.wrap ((n : Int) - 1) = (n : Int) - 1 := IntWalk.i64_in _ (by omega)
        have hin := in_keys (n := x.key) (lo := 0) (hi := (n : Int) - 1) rfl wr
        by_cases h1 : 0 ≤ x.key ∧ x.key ≤ (n : Int) - 1
        · rw [decide_eq_true h1.1, decide_eq_true h1.2, Bool.and_self] at hin
          have hnx := Lib.hid (all_more hx.out (n := n) (by rw [onKeys, decide_eq_true h1.1, decide_eq_true (show x.key < (n : Int) by omega)]; rfl) hall.out)
          replace hin := Lib.hid hin
          clear h1
          go_wp2_with fail
          refine hin.out.mono ?_
          rintro e w' ⟨rfl, rfl⟩
          go_wp2
          go_roundw
          case rel => exact ⟨k + 1, by omega, by go_num, trivial, hnx.out⟩
          case measure => simp [intOf]; omega
        · have hf : (decide ((0 : Int) ≤ x.key) && decide (x.key ≤ (n : Int) - 1)) = false := by
            rw [Bool.and_eq_false_iff, decide_eq_false_iff_not, decide_eq_false_iff_not]
            omega
          rw [hf] at hin
          have hr := Lib.hid (hno.out (all_no hx.out (by
            unfold onKeys
            rw [Bool.and_eq_false_iff, decide_eq_false_iff_not, decide_eq_false_iff_not]
            omega)))
          replace hin := Lib.hid hin
          clear h1 hf
          go_wp2_with fail
          refine hin.out.mono ?_
          rintro e w' ⟨rfl, rfl⟩
          go_wp2
          rw [hr.out]
          go_ret2
          exact ⟨rfl, hb1⟩
      · obtain rfl : k = l := by omega
        have hT : ps.take k = ps := List.take_of_length_le (by rw [hlp]; exact Nat.le_refl _)
        rw [hT] at hall
        by_cases hbig : 200 < k
        · have hg : decide ((200 : Int) < (k : Int)) = true := decide_eq_true (by omega)
          have hr := Lib.hid (hno.out (by rw [psOk, decide_eq_false (by rw [hlp]; omega), Bool.and_false]))
          go_wp2
          rw [hr.out]
          go_ret2
          exact ⟨rfl, hb1⟩
        · have hg : decide ((200 : Int) < (k : Int)) = false := decide_eq_false (by omega)
          have hr := Lib.hid (hyes.out (by rw [psOk, hall.out, decide_eq_true (by rw [hlp]; omega)]; rfl))
          have hat : ∀ (j : Nat) (x : PressD), ps[j]? = some x → 0 ≤ x.key ∧ x.key < (n : Int) := fun j x hx => all_at hall.out hx
          replace hat := Lib.hid hat
          replace hbig : k ≤ 200 := by omega
          have hfin : Hid (∀ acc, typeS ks as_ none ps = some acc → textR ks as_ ps = (⟨acc.toArray⟩, 0)) := Lib.hid fun acc ha => by rw [hr.out, ha]
          have hbad : Hid (typeS ks as_ none ps = none → textR ks as_ ps = (ByteArray.empty, 6)) := Lib.hid fun ha => by rw [hr.out, ha]
          have hlet : ∀ x : PressD, 0 ≤ x.key → x.key < (n : Int) → isLet (letterOf ks x) = true := fun x q0 q1 => letter_is hv.out q0 (by rw [hlk]; exact q1)
          have hmade : ∀ (M N t : ByteArray), madeOf M N as_ = some t → isLet t = true := fun M N t ht => made_is hv.out ht
          have hhit : ∀ (M N : ByteArray) (q : Nat) (x : AccentD), as_[q]? = some x → x.mark = M → x.letter = N → madeOf M N (as_.take (q + 1)) = some x.made := fun M N q x hx e1 e2 => made_hit hv.out hx e1 e2
          replace hlet := Lib.hid hlet
          replace hmade := Lib.hid hmade
          replace hhit := Lib.hid hhit
          clear hno hyes hall hlt hT hr
          have hlp' := hlp
          generalize hkl : k = L at *
          clear hkl
          rename World => w0
          go_wp2
          go_loopw [9, 10] (fun v i wr => ∃ (k : Nat) (so : ByteArray), k ≤ L ∧ i = .int .i64 k ∧ v = .string so ∧ so.size ≤ k ∧ Below w0.heap.size w0 wr ∧ typeS ks as_ none ps = (typeS ks as_ none (ps.drop k)).map (so.data.toList ++ ·)) (fun _ i _ => L - (intOf i).toNat)
          case atStart => exact ⟨0, ⟨#[]⟩, by omega, rfl, rfl, Nat.le_refl _, Below.refl _ _, by simp⟩
          case round =>
            rename World => wo
            obtain ⟨k, so, hk, rfl, rfl, hso, hbo, he⟩ := hrel
            replace he := Lib.hid he
            by_cases hlt : k < L
            · obtain ⟨pb, po, x, rfl, hb, hx, x0, x1⟩ := press_at (hP1.below hbo) hlt
              obtain ⟨q0, q1⟩ := hat.out k x hx.out
              have hk0 : (0 : Int) ≤ (k : Int) := Int.natCast_nonneg _
              have hk1 : (k : Int) < (L : Int) := by omega
              have hpx := Lib.hid (print_spec A n n ks x wo (hK.below hbo) hn q0 q1)
              have hlx := Lib.hid (isLet_size (hlet.out x q0 q1))
              obtain ⟨i, z, hi, hz, hle, hdz⟩ := key_of (ks := ks) q0 (by rw [hlk]; exact q1)
              have hin : i < n := by omega
              have hi0 : (0 : Int) ≤ (i : Int) := Int.natCast_nonneg _
              have hi1 : (i : Int) < (n : Int) := by omega
              replace hi := Lib.hid hi
              clear hle
              cases hd : z.dead with
              | false =>
                have hnx := Lib.hid (he.out.trans (by rw [type_none hx.out (hdz.trans hd), map_map]))
                have hs2 : (letterOf ks x).size = 1 := hlx.out
                have hcat : Hid ((so ++ letterOf ks x).size ≤ k + 1 ∧ (so ++ letterOf ks x).data.toList = so.data.toList ++ (letterOf ks x).data.toList) := Lib.hid ⟨by rw [ByteArray.size_append]; omega, by rw [ByteArray.data_append, Array.toList_append]⟩
                have hnx2 : Hid (typeS ks as_ none ps = (typeS ks as_ none (ps.drop (k + 1))).map ((so ++ letterOf ks x).data.toList ++ ·)) := Lib.hid (by rw [hcat.out.2]; exact hnx.out)
                go_wp2_with fail
                refine hpx.out.mono ?_
                rintro e w2 ⟨rfl, hb2⟩
                obtain ⟨kb, ko, z', rfl, hkb, hz', k0, k1, k2⟩ := key_at (hK.below (hbo.step hb2)) hin
                have ez := hz'.out
                rw [hz] at ez
                cases ez
                have f0 := cell_step x0 hb2
                rw [hi.out] at f0
                rw [hd] at k2
                clear hd hz hz' hdz
                go_wp2
                go_roundw
                case rel => exact ⟨k + 1, _, by omega, by go_num, rfl, hcat.out.1, hbo.step hb2, hnx2.out⟩
                case measure => simp [intOf]; omega
              | true =>
                have hdead := Lib.hid (he.out.trans (by rw [type_dead hx.out (hdz.trans hd)]))
                by_cases hlast : k + 1 < L
                · obtain ⟨pb', po', y, hPe, hb', hy, y0, y1⟩ := press_at (hP1.below hbo) hlast
                  cases hPe
                  obtain ⟨r0, r1⟩ := hat.out (k + 1) y hy.out
                  have hly := Lib.hid (print_spec A n n ks y)
                  go_wp2_with fail
                  refine hpx.out.mono ?_
                  rintro e w2 ⟨rfl, hb2⟩
                  obtain ⟨kb, ko, z', rfl, hkb, hz', k0, k1, k2⟩ := key_at (hK.below (hbo.step hb2)) hin
                  have ez := hz'.out
                  rw [hz] at ez
                  cases ez
                  have f0 := cell_step x0 hb2
                  rw [hi.out] at f0
                  rw [hd] at k2
                  have hbo2 := hbo.step hb2
                  clear hd hz hz' hdz hpx hb2 k0 k1
                  generalize hM : letterOf ks x = M at *
                  go_wp2
                  go_loopw [12, 13] (fun v j wr => ∃ q : Nat, q ≤ m ∧ j = .int .i64 q ∧ v = .string ((madeOf M (letterOf ks y) (as_.take q)).getD ⟨#[]⟩) ∧ Below w2.heap.size w2 wr) (fun _ j _ => m - (intOf j).toNat)
                  case atStart => exact ⟨0, by omega, rfl, rfl, Below.refl _ _⟩
                  case round =>
                    rename World => wq
                    obtain ⟨q, hq, rfl, rfl, hbq⟩ := hrel
                    by_cases hltq : q < m
                    · obtain ⟨ab, ao, a, rfl, hab, ha, a0, a1, a2⟩ := accent_at ((hA1.below hbo2).below hbq) hltq
                      obtain ⟨pb'', po'', y', hPe, hb'', hy', y0, y1⟩ := press_at ((hP1.below hbo2).below hbq) hlast
                      cases hPe
                      have ey := hy'.out
                      rw [hy.out] at ey
                      cases ey
                      have hq0 : (0 : Int) ≤ (q : Int) := Int.natCast_nonneg _
                      have hq1 : (q : Int) < (m : Int) := by omega
                      have hkk0 : (0 : Int) ≤ (k : Int) + 1 := by omega
                      have hkk1 : (k : Int) + 1 < (L : Int) := by omega
                      have hkn : ((k : Int) + 1).toNat = k + 1 := rfl
                      have hpr := Lib.hid fun W (hW : Below wq.heap.size wq W) => hly.out W (((hK.below hbo2).below hbq).below hW) hn r0 r1
                      by_cases hm1 : a.mark = M
                      · have e1 := str_eq_true hm1
                        by_cases hm2 : a.letter = letterOf ks y
                        · have e2 := str_eq_true hm2
                          have hnx := Lib.hid (hhit.out M (letterOf ks y) q a ha.out hm1 hm2)
                          clear hm1 hm2
                          go_wp2_with fail
                          refine wp_region_held_drew (S := fun w' => Below wq.heap.size wq w' ∧ w'.cell? ⟨ab, ao + q * 3, none⟩ = some (.string a.mark) ∧ w'.cell? ⟨ab, ao + q * 3 + 1, none⟩ = some (.string a.letter) ∧ w'.cell? ⟨pb, po + (k + 1) * 2, none⟩ = some (.int .i64 y.key) ∧ w'.cell? ⟨pb, po + (k + 1) * 2 + 1, none⟩ = some (.bool y.shift)) (by kernel_rfl) ?_ (fun hHeld => ?_)
                          · exact ⟨(Below.refl _ _).drew, a0, a1, y0, y1⟩
                          refine wpAnyH_take (i := 0) (v := ?va0) rfl (by kernel_rfl) (by kernel_rfl) (by kernel_rfl) (fun _ _ _ h => h) (Or.inl ⟨rfl, ?ya0⟩) (by assumption) ?_
                          case ya0 => (intro w hSw; (try dsimp only at hSw); go_simp; first | done | with_reducible rfl)
                          simp only [List.getElem_toArray, List.getElem_cons_succ, List.getElem_cons_zero, Act.put, List.setIfInBounds_toArray, List.set_cons_zero, List.set_cons_succ]
                          refine wpAnyH_take (i := 1) (v := ?va1) rfl (by kernel_rfl) (by kernel_rfl) (by kernel_rfl) (fun _ _ _ h => h) (Or.inl ⟨rfl, ?ya1⟩) (by assumption) ?_
                          case ya1 => (intro w hSw; (try dsimp only at hSw); go_simp; first | done | with_reducible rfl)
                          simp only [List.getElem_toArray, List.getElem_cons_succ, List.getElem_cons_zero, Act.put, List.setIfInBounds_toArray, List.set_cons_zero, List.set_cons_succ]
                          refine wpAnyH_take (i := 2) (v := ?va2) rfl (by kernel_rfl) (by kernel_rfl) (by kernel_rfl) (fun _ _ _ h => h) (Or.inl ⟨rfl, ?ya2⟩) (by assumption) ?_
                          case ya2 => (intro w hSw; (try dsimp only at hSw); go_simp; first | done | with_reducible rfl)
                          simp only [List.getElem_toArray, List.getElem_cons_succ, List.getElem_cons_zero, Act.put, List.setIfInBounds_toArray, List.set_cons_zero, List.set_cons_succ]
                          refine wpAnyH_take (i := 3) (v := ?va3) rfl (by kernel_rfl) (by kernel_rfl) (by kernel_rfl) (fun _ _ _ h => h) (Or.inl ⟨rfl, ?ya3⟩) (by assumption) ?_
                          case ya3 => (intro w hSw; (try dsimp only at hSw); go_simp; first | done | with_reducible rfl)
                          simp only [List.getElem_toArray, List.getElem_cons_succ, List.getElem_cons_zero, Act.put, List.setIfInBounds_toArray, List.set_cons_zero, List.set_cons_succ]
                          refine wpAnyH_take (i := 4) (v := ?va4) rfl (by kernel_rfl) (by kernel_rfl) (by kernel_rfl) (fun _ _ _ h => h) (Or.inl ⟨rfl, ?ya4⟩) (by assumption) ?_
                          case ya4 => (intro w hSw; (try dsimp only at hSw); go_simp; first | done | with_reducible rfl)
                          simp only [List.getElem_toArray, List.getElem_cons_succ, List.getElem_cons_zero, Act.put, List.setIfInBounds_toArray, List.set_cons_zero, List.set_cons_succ]
                          refine wpAnyH_take (i := 5) (v := ?va5) rfl (by kernel_rfl) (by kernel_rfl) (by kernel_rfl) (fun _ _ _ h => h) (Or.inl ⟨rfl, ?ya5⟩) (by assumption) ?_
                          case ya5 => (intro w hSw; (try dsimp only at hSw); go_simp; first | done | with_reducible rfl)
                          simp only [List.getElem_toArray, List.getElem_cons_succ, List.getElem_cons_zero, Act.put, List.setIfInBounds_toArray, List.set_cons_zero, List.set_cons_succ]
                          refine wpAnyH_take (i := 6) (v := ?va6) rfl (by kernel_rfl) (by kernel_rfl) (by kernel_rfl) (fun _ _ _ h => h) (Or.inl ⟨rfl, ?ya6⟩) (by assumption) ?_
                          case ya6 => (intro w hSw; (try dsimp only at hSw); go_simp; first | done | with_reducible rfl)
                          simp only [List.getElem_toArray, List.getElem_cons_succ, List.getElem_cons_zero, Act.put, List.setIfInBounds_toArray, List.set_cons_zero, List.set_cons_succ]
                          refine wpAnyH_take (i := 7) (v := ?va7) rfl (by kernel_rfl) (by kernel_rfl) (by kernel_rfl) (fun _ _ _ h => h) (Or.inl ⟨rfl, ?ya7⟩) (by assumption) ?_
                          case ya7 => (intro w hSw; (try dsimp only at hSw); go_simp; first | done | with_reducible rfl)
                          simp only [List.getElem_toArray, List.getElem_cons_succ, List.getElem_cons_zero, Act.put, List.setIfInBounds_toArray, List.set_cons_zero, List.set_cons_succ]
                          refine wpAnyH_take (i := 8) (v := ?va8) rfl (by kernel_rfl) (by kernel_rfl) (by kernel_rfl) (fun _ _ _ h => h) (Or.inl ⟨rfl, ?ya8⟩) (by assumption) ?_
                          case ya8 => (intro w hSw; (try dsimp only at hSw); go_simp; first | done | with_reducible rfl)
                          simp only [List.getElem_toArray, List.getElem_cons_succ, List.getElem_cons_zero, Act.put, List.setIfInBounds_toArray, List.set_cons_zero, List.set_cons_succ]
                          refine wpAnyH_take (i := 9) (v := ?va9) rfl (by kernel_rfl) (by kernel_rfl) (by kernel_rfl) (fun _ _ _ h => h) (Or.inl ⟨rfl, ?ya9⟩) (by assumption) ?_
                          case ya9 => (intro w hSw; (try dsimp only at hSw); go_simp; first | done | with_reducible rfl)
                          simp only [List.getElem_toArray, List.getElem_cons_succ, List.getElem_cons_zero, Act.put, List.setIfInBounds_toArray, List.set_cons_zero, List.set_cons_succ]
                          refine wpAnyH_take (i := 10) (v := ?va10) rfl (by kernel_rfl) (by kernel_rfl) (by kernel_rfl) (fun _ _ _ h => h) (Or.inl ⟨rfl, ?ya10⟩) (by assumption) ?_
                          case ya10 => (intro w hSw; (try dsimp only at hSw); go_simp; first | done | with_reducible rfl)
                          simp only [List.getElem_toArray, List.getElem_cons_succ, List.getElem_cons_zero, Act.put, List.setIfInBounds_toArray, List.set_cons_zero, List.set_cons_succ]
                          refine wpAnyH_take (i := 11) (v := ?va11) rfl (by kernel_rfl) (by kernel_rfl) (by kernel_rfl) (fun _ _ _ h => h) (Or.inl ⟨rfl, ?ya11⟩) (by assumption) ?_
                          case ya11 => (intro w hSw; (try dsimp only at hSw); go_simp; first | done | with_reducible rfl)
                          simp only [List.getElem_toArray, List.getElem_cons_succ, List.getElem_cons_zero, Act.put, List.setIfInBounds_toArray, List.set_cons_zero, List.set_cons_succ]
                          refine wpAnyH_take (i := 12) (v := ?va12) rfl (by kernel_rfl) (by kernel_rfl) (by kernel_rfl) (fun _ _ _ h => h) (Or.inl ⟨rfl, ?ya12⟩) (by assumption) ?_
                          case ya12 => (intro w hSw; (try dsimp only at hSw); go_simp; first | done | with_reducible rfl)
                          simp only [List.getElem_toArray, List.getElem_cons_succ, List.getElem_cons_zero, Act.put, List.setIfInBounds_toArray, List.set_cons_zero, List.set_cons_succ]
                          refine wpAnyH_take (i := 13) (v := ?va13) rfl (by kernel_rfl) (by kernel_rfl) (by kernel_rfl) (fun _ _ _ h => h) (Or.inl ⟨rfl, ?ya13⟩) (by assumption) ?_
                          case ya13 => (intro w hSw; (try dsimp only at hSw); go_simp; first | done | with_reducible rfl)
                          simp only [List.getElem_toArray, List.getElem_cons_succ, List.getElem_cons_zero, Act.put, List.setIfInBounds_toArray, List.set_cons_zero, List.set_cons_succ]
                          refine wpAnyH_take (i := 14) (v := ?va14) rfl (by kernel_rfl) (by kernel_rfl) (by kernel_rfl) (fun _ _ _ h => h) (Or.inl ⟨rfl, ?ya14⟩) (by assumption) ?_
                          case ya14 => (intro w hSw; (try dsimp only at hSw); go_simp; first | done | with_reducible rfl)
                          simp only [List.getElem_toArray, List.getElem_cons_succ, List.getElem_cons_zero, Act.put, List.setIfInBounds_toArray, List.set_cons_zero, List.set_cons_succ]
                          refine wpAnyH_take (i := 15) (v := ?va15) rfl (by kernel_rfl) (by kernel_rfl) (by kernel_rfl) (fun _ _ _ h => h) (Or.inl ⟨rfl, ?ya15⟩) (by assumption) ?_
                          case ya15 => (intro w hSw; (try dsimp only at hSw); go_simp; first | done | with_reducible rfl)
                          simp only [List.getElem_toArray, List.getElem_cons_succ, List.getElem_cons_zero, Act.put, List.setIfInBounds_toArray, List.set_cons_zero, List.set_cons_succ]
                          refine wpAnyH_take (i := 16) (v := ?va16) rfl (by kernel_rfl) (by kernel_rfl) (by kernel_rfl) (fun _ _ _ h => h) (Or.inl ⟨rfl, ?ya16⟩) (by assumption) ?_
                          case ya16 => (intro w hSw; (try dsimp only at hSw); go_simp; first | done | with_reducible rfl)
                          simp only [List.getElem_toArray, List.getElem_cons_succ, List.getElem_cons_zero, Act.put, List.setIfInBounds_toArray, List.set_cons_zero, List.set_cons_succ]
                          refine wpAnyH_take (i := 17) (v := ?va17) rfl (by kernel_rfl) (by kernel_rfl) (by kernel_rfl) (fun _ _ _ h => h) (Or.inl ⟨rfl, ?ya17⟩) (by assumption) ?_
                          case ya17 => (intro w hSw; (try dsimp only at hSw); go_simp; first | done | with_reducible rfl)
                          simp only [List.getElem_toArray, List.getElem_cons_succ, List.getElem_cons_zero, Act.put, List.setIfInBounds_toArray, List.set_cons_zero, List.set_cons_succ]
                          refine wpAnyH_ready (rs := [18]) (by kernel_rfl) (by simp) ?_
                          refine AllReadyH.cons rfl (fun K hK => ?_) AllReadyH.nil
                          go_simp
                          refine (hpr.out _ hHeld.1).mono ?_
                          rintro e w1 ⟨rfl, hb1⟩
                          go_wp2_with fail
                          refine hK.out _ _ ?_ (fun hHeld => ?_)
                          · exact kept4a (by assumption) hb1
                          clear hK K hb1
                          try simp only [List.getElem_toArray, List.getElem_cons_succ, List.getElem_cons_zero, Act.put, List.setIfInBounds_toArray, List.set_cons_zero, List.set_cons_succ]
                          refine wpAnyH_take (i := 19) (v := ?va19) rfl (by kernel_rfl) (by kernel_rfl) (by kernel_rfl) (fun _ _ _ h => h) (Or.inl ⟨rfl, ?ya19⟩) (by assumption) ?_
                          case ya19 => (intro w hSw; (try dsimp only at hSw); go_simp; first | done | with_reducible rfl)
                          simp only [List.getElem_toArray, List.getElem_cons_succ, List.getElem_cons_zero, Act.put, List.setIfInBounds_toArray, List.set_cons_zero, List.set_cons_succ]
                          refine wpAnyH_take (i := 20) (v := ?va20) rfl (by kernel_rfl) (by kernel_rfl) (by kernel_rfl) (fun _ _ _ h => h) (Or.inl ⟨rfl, ?ya20⟩) (by assumption) ?_
                          case ya20 => (intro w hSw; (try dsimp only at hSw); go_simp; first | done | with_reducible rfl)
                          simp only [List.getElem_toArray, List.getElem_cons_succ, List.getElem_cons_zero, Act.put, List.setIfInBounds_toArray, List.set_cons_zero, List.set_cons_succ]
                          refine wpAnyH_done (by kernel_rfl) ?_ _
                          have a2' := cell_step a2 hHeld.1
                          have hbq' := hbq.step hHeld.1
                          go_wp2
                          go_roundw
                          case rel => exact ⟨q + 1, by omega, by go_num, by rw [hnx.out]; rfl, hbq'⟩
                          case measure => simp [intOf]; omega
                        · have e2 := str_eq_false hm2
                          have hnx := Lib.hid (made_miss ha.out (fun hh : a.mark = M ∧ a.letter = letterOf ks y => hm2 hh.2))
                          clear hm1 hm2
                          go_wp2_with fail
                          refine wp_region_held_drew (S := fun w' => Below wq.heap.size wq w' ∧ w'.cell? ⟨ab, ao + q * 3, none⟩ = some (.string a.mark) ∧ w'.cell? ⟨ab, ao + q * 3 + 1, none⟩ = some (.string a.letter) ∧ w'.cell? ⟨pb, po + (k + 1) * 2, none⟩ = some (.int .i64 y.key) ∧ w'.cell? ⟨pb, po + (k + 1) * 2 + 1, none⟩ = some (.bool y.shift)) (by kernel_rfl) ?_ (fun hHeld => ?_)
                          · exact ⟨(Below.refl _ _).drew, a0, a1, y0, y1⟩
                          refine wpAnyH_take (i := 0) (v := ?vb0) rfl (by kernel_rfl) (by kernel_rfl) (by kernel_rfl) (fun _ _ _ h => h) (Or.inl ⟨rfl, ?yb0⟩) (by assumption) ?_
                          case yb0 => (intro w hSw; (try dsimp only at hSw); go_simp; first | done | with_reducible rfl)
                          simp only [List.getElem_toArray, List.getElem_cons_succ, List.getElem_cons_zero, Act.put, List.setIfInBounds_toArray, List.set_cons_zero, List.set_cons_succ]
                          refine wpAnyH_take (i := 1) (v := ?vb1) rfl (by kernel_rfl) (by kernel_rfl) (by kernel_rfl) (fun _ _ _ h => h) (Or.inl ⟨rfl, ?yb1⟩) (by assumption) ?_
                          case yb1 => (intro w hSw; (try dsimp only at hSw); go_simp; first | done | with_reducible rfl)
                          simp only [List.getElem_toArray, List.getElem_cons_succ, List.getElem_cons_zero, Act.put, List.setIfInBounds_toArray, List.set_cons_zero, List.set_cons_succ]
                          refine wpAnyH_take (i := 2) (v := ?vb2) rfl (by kernel_rfl) (by kernel_rfl) (by kernel_rfl) (fun _ _ _ h => h) (Or.inl ⟨rfl, ?yb2⟩) (by assumption) ?_
                          case yb2 => (intro w hSw; (try dsimp only at hSw); go_simp; first | done | with_reducible rfl)
                          simp only [List.getElem_toArray, List.getElem_cons_succ, List.getElem_cons_zero, Act.put, List.setIfInBounds_toArray, List.set_cons_zero, List.set_cons_succ]
                          refine wpAnyH_take (i := 3) (v := ?vb3) rfl (by kernel_rfl) (by kernel_rfl) (by kernel_rfl) (fun _ _ _ h => h) (Or.inl ⟨rfl, ?yb3⟩) (by assumption) ?_
                          case yb3 => (intro w hSw; (try dsimp only at hSw); go_simp; first | done | with_reducible rfl)
                          simp only [List.getElem_toArray, List.getElem_cons_succ, List.getElem_cons_zero, Act.put, List.setIfInBounds_toArray, List.set_cons_zero, List.set_cons_succ]
                          refine wpAnyH_take (i := 4) (v := ?vb4) rfl (by kernel_rfl) (by kernel_rfl) (by kernel_rfl) (fun _ _ _ h => h) (Or.inl ⟨rfl, ?yb4⟩) (by assumption) ?_
                          case yb4 => (intro w hSw; (try dsimp only at hSw); go_simp; first | done | with_reducible rfl)
                          simp only [List.getElem_toArray, List.getElem_cons_succ, List.getElem_cons_zero, Act.put, List.setIfInBounds_toArray, List.set_cons_zero, List.set_cons_succ]
                          refine wpAnyH_take (i := 5) (v := ?vb5) rfl (by kernel_rfl) (by kernel_rfl) (by kernel_rfl) (fun _ _ _ h => h) (Or.inl ⟨rfl, ?yb5⟩) (by assumption) ?_
                          case yb5 => (intro w hSw; (try dsimp only at hSw); go_simp; first | done | with_reducible rfl)
                          simp only [List.getElem_toArray, List.getElem_cons_succ, List.getElem_cons_zero, Act.put, List.setIfInBounds_toArray, List.set_cons_zero, List.set_cons_succ]
                          refine wpAnyH_take (i := 6) (v := ?vb6) rfl (by kernel_rfl) (by kernel_rfl) (by kernel_rfl) (fun _ _ _ h => h) (Or.inl ⟨rfl, ?yb6⟩) (by assumption) ?_
                          case yb6 => (intro w hSw; (try dsimp only at hSw); go_simp; first | done | with_reducible rfl)
                          simp only [List.getElem_toArray, List.getElem_cons_succ, List.getElem_cons_zero, Act.put, List.setIfInBounds_toArray, List.set_cons_zero, List.set_cons_succ]
                          refine wpAnyH_take (i := 7) (v := ?vb7) rfl (by kernel_rfl) (by kernel_rfl) (by kernel_rfl) (fun _ _ _ h => h) (Or.inl ⟨rfl, ?yb7⟩) (by assumption) ?_
                          case yb7 => (intro w hSw; (try dsimp only at hSw); go_simp; first | done | with_reducible rfl)
                          simp only [List.getElem_toArray, List.getElem_cons_succ, List.getElem_cons_zero, Act.put, List.setIfInBounds_toArray, List.set_cons_zero, List.set_cons_succ]
                          refine wpAnyH_take (i := 8) (v := ?vb8) rfl (by kernel_rfl) (by kernel_rfl) (by kernel_rfl) (fun _ _ _ h => h) (Or.inl ⟨rfl, ?yb8⟩) (by assumption) ?_
                          case yb8 => (intro w hSw; (try dsimp only at hSw); go_simp; first | done | with_reducible rfl)
                          simp only [List.getElem_toArray, List.getElem_cons_succ, List.getElem_cons_zero, Act.put, List.setIfInBounds_toArray, List.set_cons_zero, List.set_cons_succ]
                          refine wpAnyH_take (i := 9) (v := ?vb9) rfl (by kernel_rfl) (by kernel_rfl) (by kernel_rfl) (fun _ _ _ h => h) (Or.inl ⟨rfl, ?yb9⟩) (by assumption) ?_
                          case yb9 => (intro w hSw; (try dsimp only at hSw); go_simp; first | done | with_reducible rfl)
                          simp only [List.getElem_toArray, List.getElem_cons_succ, List.getElem_cons_zero, Act.put, List.setIfInBounds_toArray, List.set_cons_zero, List.set_cons_succ]
                          refine wpAnyH_take (i := 10) (v := ?vb10) rfl (by kernel_rfl) (by kernel_rfl) (by kernel_rfl) (fun _ _ _ h => h) (Or.inl ⟨rfl, ?yb10⟩) (by assumption) ?_
                          case yb10 => (intro w hSw; (try dsimp only at hSw); go_simp; first | done | with_reducible rfl)
                          simp only [List.getElem_toArray, List.getElem_cons_succ, List.getElem_cons_zero, Act.put, List.setIfInBounds_toArray, List.set_cons_zero, List.set_cons_succ]
                          refine wpAnyH_take (i := 11) (v := ?vb11) rfl (by kernel_rfl) (by kernel_rfl) (by kernel_rfl) (fun _ _ _ h => h) (Or.inl ⟨rfl, ?yb11⟩) (by assumption) ?_
                          case yb11 => (intro w hSw; (try dsimp only at hSw); go_simp; first | done | with_reducible rfl)
                          simp only [List.getElem_toArray, List.getElem_cons_succ, List.getElem_cons_zero, Act.put, List.setIfInBounds_toArray, List.set_cons_zero, List.set_cons_succ]
                          refine wpAnyH_take (i := 12) (v := ?vb12) rfl (by kernel_rfl) (by kernel_rfl) (by kernel_rfl) (fun _ _ _ h => h) (Or.inl ⟨rfl, ?yb12⟩) (by assumption) ?_
                          case yb12 => (intro w hSw; (try dsimp only at hSw); go_simp; first | done | with_reducible rfl)
                          simp only [List.getElem_toArray, List.getElem_cons_succ, List.getElem_cons_zero, Act.put, List.setIfInBounds_toArray, List.set_cons_zero, List.set_cons_succ]
                          refine wpAnyH_take (i := 13) (v := ?vb13) rfl (by kernel_rfl) (by kernel_rfl) (by kernel_rfl) (fun _ _ _ h => h) (Or.inl ⟨rfl, ?yb13⟩) (by assumption) ?_
                          case yb13 => (intro w hSw; (try dsimp only at hSw); go_simp; first | done | with_reducible rfl)
                          simp only [List.getElem_toArray, List.getElem_cons_succ, List.getElem_cons_zero, Act.put, List.setIfInBounds_toArray, List.set_cons_zero, List.set_cons_succ]
                          refine wpAnyH_take (i := 14) (v := ?vb14) rfl (by kernel_rfl) (by kernel_rfl) (by kernel_rfl) (fun _ _ _ h => h) (Or.inl ⟨rfl, ?yb14⟩) (by assumption) ?_
                          case yb14 => (intro w hSw; (try dsimp only at hSw); go_simp; first | done | with_reducible rfl)
                          simp only [List.getElem_toArray, List.getElem_cons_succ, List.getElem_cons_zero, Act.put, List.setIfInBounds_toArray, List.set_cons_zero, List.set_cons_succ]
                          refine wpAnyH_take (i := 15) (v := ?vb15) rfl (by kernel_rfl) (by kernel_rfl) (by kernel_rfl) (fun _ _ _ h => h) (Or.inl ⟨rfl, ?yb15⟩) (by assumption) ?_
                          case yb15 => (intro w hSw; (try dsimp only at hSw); go_simp; first | done | with_reducible rfl)
                          simp only [List.getElem_toArray, List.getElem_cons_succ, List.getElem_cons_zero, Act.put, List.setIfInBounds_toArray, List.set_cons_zero, List.set_cons_succ]
                          refine wpAnyH_take (i := 16) (v := ?vb16) rfl (by kernel_rfl) (by kernel_rfl) (by kernel_rfl) (fun _ _ _ h => h) (Or.inl ⟨rfl, ?yb16⟩) (by assumption) ?_
                          case yb16 => (intro w hSw; (try dsimp only at hSw); go_simp; first | done | with_reducible rfl)
                          simp only [List.getElem_toArray, List.getElem_cons_succ, List.getElem_cons_zero, Act.put, List.setIfInBounds_toArray, List.set_cons_zero, List.set_cons_succ]
                          refine wpAnyH_take (i := 17) (v := ?vb17) rfl (by kernel_rfl) (by kernel_rfl) (by kernel_rfl) (fun _ _ _ h => h) (Or.inl ⟨rfl, ?yb17⟩) (by assumption) ?_
                          case yb17 => (intro w hSw; (try dsimp only at hSw); go_simp; first | done | with_reducible rfl)
                          simp only [List.getElem_toArray, List.getElem_cons_succ, List.getElem_cons_zero, Act.put, List.setIfInBounds_toArray, List.set_cons_zero, List.set_cons_succ]
                          refine wpAnyH_ready (rs := [18]) (by kernel_rfl) (by simp) ?_
                          refine AllReadyH.cons rfl (fun K hK => ?_) AllReadyH.nil
                          go_simp
                          refine (hpr.out _ hHeld.1).mono ?_
                          rintro e w1 ⟨rfl, hb1⟩
                          go_wp2_with fail
                          refine hK.out _ _ ?_ (fun hHeld => ?_)
                          · exact kept4a (by assumption) hb1
                          clear hK K hb1
                          try simp only [List.getElem_toArray, List.getElem_cons_succ, List.getElem_cons_zero, Act.put, List.setIfInBounds_toArray, List.set_cons_zero, List.set_cons_succ]
                          refine wpAnyH_take (i := 19) (v := ?vb19) rfl (by kernel_rfl) (by kernel_rfl) (by kernel_rfl) (fun _ _ _ h => h) (Or.inl ⟨rfl, ?yb19⟩) (by assumption) ?_
                          case yb19 => (intro w hSw; (try dsimp only at hSw); go_simp; first | done | with_reducible rfl)
                          simp only [List.getElem_toArray, List.getElem_cons_succ, List.getElem_cons_zero, Act.put, List.setIfInBounds_toArray, List.set_cons_zero, List.set_cons_succ]
                          refine wpAnyH_take (i := 20) (v := ?vb20) rfl (by kernel_rfl) (by kernel_rfl) (by kernel_rfl) (fun _ _ _ h => h) (Or.inl ⟨rfl, ?yb20⟩) (by assumption) ?_
                          case yb20 => (intro w hSw; (try dsimp only at hSw); go_simp; first | done | with_reducible rfl)
                          simp only [List.getElem_toArray, List.getElem_cons_succ, List.getElem_cons_zero, Act.put, List.setIfInBounds_toArray, List.set_cons_zero, List.set_cons_succ]
                          refine wpAnyH_done (by kernel_rfl) ?_ _
                          have hbq' := hbq.step hHeld.1
                          go_wp2
                          go_roundw
                          case rel => exact ⟨q + 1, by omega, by go_num, by rw [hnx.out], hbq'⟩
                          case measure => simp [intOf]; omega
                      · have e1 := str_eq_false hm1
                        have hnx := Lib.hid (made_miss ha.out (fun hh : a.mark = M ∧ a.letter = letterOf ks y => hm1 hh.1))
                        clear hm1
                        go_wp2_with fail
                        go_quiet (fail)
                        go_wp2
                        go_roundw
                        case rel => exact ⟨q + 1, by omega, by go_num, by rw [hnx.out], below_drewN hbq _⟩
                        case measure => simp [intOf]; omega
                    · obtain rfl : q = m := by omega
                      have hT : as_.take q = as_ := List.take_of_length_le (by rw [hla]; exact Nat.le_refl _)
                      have hkk0 : (0 : Int) ≤ (k : Int) + 1 := by omega
                      have hkk1 : (k : Int) + 1 < (L : Int) := by omega
                      cases hmo : madeOf M (letterOf ks y) as_ with
                      | none =>
                        have hval : (madeOf M (letterOf ks y) (as_.take q)).getD ⟨#[]⟩ = ⟨#[]⟩ := by rw [hT, hmo]; rfl
                        have hr := Lib.hid (hbad.out (by rw [hdead.out, type_stop hy.out hmo]; rfl))
                        rw [hval]
                        clear hmo hval hT
                        go_wp2
                        rw [hr.out]
                        go_ret2
                        exact ⟨rfl, (hb1.trans (hbo2.mono hb1.size)).trans (hbq.mono (Nat.le_trans hb1.size hbo2.size))⟩
                      | some t =>
                        have hval : (madeOf M (letterOf ks y) (as_.take q)).getD ⟨#[]⟩ = t := by rw [hT, hmo]; rfl
                        have hnx := hdead.out.trans (by rw [type_some hy.out hmo, map_map])
                        have hlt' := hmade.out _ _ _ hmo
                        have hts : t.size = 1 := isLet_size hlt'
                        have e3 := empty_no hlt'
                        have hcat : Hid ((so ++ t).size ≤ k + 1 ∧ (so ++ t).data.toList = so.data.toList ++ t.data.toList) := Lib.hid ⟨by rw [ByteArray.size_append]; omega, by rw [ByteArray.data_append, Array.toList_append]⟩
                        have hnx2 : Hid (typeS ks as_ none ps = (typeS ks as_ none (ps.drop (k + 1 + 1))).map ((so ++ t).data.toList ++ ·)) := Lib.hid (by rw [hcat.out.2]; exact hnx)
                        have hbe := hbo2.step hbq
                        rw [hval]
                        clear hmo hval hT hnx hlt'
                        go_wp2
                        go_roundw
                        case rel => exact ⟨k + 1 + 1, _, by omega, by go_num, rfl, Nat.le_succ_of_le hcat.out.1, hbe, hnx2.out⟩
                        case measure => simp [intOf]; omega
                · obtain rfl : L = k + 1 := by omega
                  have hr := Lib.hid (hbad.out (by rw [hdead.out, type_cut (by rw [hlp']; exact Nat.le_refl _)]; rfl))
                  go_wp2_with fail
                  refine hpx.out.mono ?_
                  rintro e w2 ⟨rfl, hb2⟩
                  obtain ⟨kb, ko, z', rfl, hkb, hz', k0, k1, k2⟩ := key_at (hK.below (hbo.step hb2)) hin
                  have ez := hz'.out
                  rw [hz] at ez
                  cases ez
                  have f0 := cell_step x0 hb2
                  rw [hi.out] at f0
                  rw [hd] at k2
                  have hbo2 := hbo.step hb2
                  have hkk : decide ((k : Int) + 1 < ((k + 1 : Nat) : Int)) = false := decide_eq_false (by omega)
                  have hkk2 : decide ((k : Int) + 1 < (k : Int) + 1) = false := decide_eq_false (by omega)
                  clear hd hz hz' hdz hpx hb2 k0 k1
                  go_wp2
                  go_loopw [12, 13] (fun v j wr => v = .string ⟨#[]⟩ ∧ j = .int .i64 0 ∧ Below w2.heap.size w2 wr) (fun _ j _ => 0)
                  case atStart => exact ⟨rfl, rfl, Below.refl _ _⟩
                  case round =>
                    rename World => wq
                    obtain ⟨rfl, rfl, hbq⟩ := hrel
                    by_cases hm0 : 0 < m
                    · have g0 : decide ((0 : Int) < (m : Int)) = true := decide_eq_true (by omega)
                      go_wp2
                      rw [hr.out]
                      go_ret2
                      exact ⟨rfl, (hb1.trans (hbo2.mono hb1.size)).trans (hbq.mono (Nat.le_trans hb1.size hbo2.size))⟩
                    · have g0 : decide ((0 : Int) < (m : Int)) = false := decide_eq_false (by omega)
                      go_wp2
                      rw [hr.out]
                      go_ret2
                      exact ⟨rfl, (hb1.trans (hbo2.mono hb1.size)).trans (hbq.mono (Nat.le_trans hb1.size hbo2.size))⟩
            · obtain rfl : k = L := by omega
              have hr := Lib.hid (hfin.out so.data.toList (by rw [he.out, type_end (by rw [hlp']; exact Nat.le_refl _)]; simp))
              go_wp2
              rw [hr.out, arr_list]
              go_ret2
              exact ⟨rfl, hb1.trans (hbo.mono hb1.size)⟩
end Go.Proofs.Ytndodlfmjdgpcaa
