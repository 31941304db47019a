/- PairsOf: the model's function. -/
import Derived.Test.YtmnafnjhioeicaaPair3
namespace Go.Proofs.Ytmnafnjhioeicaa
open Go.RowKit
set_option linter.unusedVariables false
set_option linter.unusedSimpArgs false

set_option maxRecDepth 100000 in
set_option maxHeartbeats 4000000 in
theorem ps_spec (s t : ByteArray) (w : World) (hs : s.size ≤ 1048576) (ht : t.size ≤ 1048576) :
    Calls Try.prog 32 #[.string s, .string t] w (PsOut (pairsOf s t (bytesIn 32 126 s)) w) := by
  generalize hr : pairsOf s t (bytesIn 32 126 s) = r
  replace hr := Lib.hid hr.symm
  obtain ⟨i0, hi, hz0, hz1, hz2⟩ := info_parts Try.infoIntS
  obtain ⟨j0, hj, hy0, hy1, hy2⟩ := info_parts Try.infoI64
  go_enter Try.func32, Try.ntmps32
  go_wp2
  go_loopw [7] (fun i wr => ∃ k : Nat, k ≤ s.size ∧ i = .int .i64 k ∧ Below w.heap.size w wr ∧ ∀ j : Nat, j < k → dupAt s.data.toList j = false) (fun i _ => s.size - (intOf i).toNat)
  case atStart => exact ⟨0, by omega, rfl, Below.refl _ _, fun j hj => absurd hj (by omega)⟩
  case round =>
    obtain ⟨k, hk, rfl, hbo, hall⟩ := hrel
    replace hall := Lib.hid hall
    rename World => wo
    by_cases hlt : k < s.size
    · have hby := Lib.hid (byte_of hlt)
      have hk0 : (0 : Int) ≤ (k : Int) := Int.natCast_nonneg _
      have hk1 : (k : Int) < (s.size : Int) := by omega
      go_wp2
      go_loopw [8] (fun i wq => ∃ q : Nat, q ≤ k ∧ i = .int .i64 q ∧ Below w.heap.size w wq ∧ ∀ j : Nat, j < q → s.data.toList[j]? ≠ some (s[k]'hlt)) (fun i _ => k - (intOf i).toNat)
      case atStart => exact ⟨0, by omega, rfl, hbo, fun j hj => absurd hj (by omega)⟩
      case round =>
        obtain ⟨q, hq, rfl, hbq, hne⟩ := hrel
        replace hne := Lib.hid hne
        rename World => wq
        by_cases hltq : q < k
        · have hq0 : (0 : Int) ≤ (q : Int) := Int.natCast_nonneg _
          have hq1 : (q : Int) < (s.size : Int) := by omega
          have hq2 : (q : Int) < (k : Int) := by omega
          have hbq2 := Lib.hid (byte_of (show q < s.size by omega))
          by_cases hc : s[q]'(by omega) = s[k]'hlt
          · have hres : Hid (r = ([], 2)) := Lib.hid (by
              have hd : dupAt s.data.toList k = true := dupAt_yes hby.out (by rw [hbq2.out, hc]) hltq
              rw [hr.out, pairsOf, alphaB, distB_no (i := k) hlt hd]
              simp)
            obtain ⟨e1, e2⟩ := u8_eq hc
            clear hc
            go_wp2_with fail
            go_quiet (fail)
            go_wp2
            go_ret2
            exact PsOut.bad hres.out (below_drewN hbq _)
          · have hnext : Hid (∀ j : Nat, j < q + 1 → s.data.toList[j]? ≠ some (s[k]'hlt)) := Lib.hid fun j hj => by
              rcases Nat.lt_or_ge j q with h' | h'
              · exact hne.out j h'
              · obtain rfl : j = q := by omega
                rw [hbq2.out]
                exact fun h => hc (Option.some.inj h)
            obtain ⟨e1, e2⟩ := u8_ne hc
            clear hc
            go_wp2_with fail
            go_quiet (fail)
            go_wp2
            go_roundw
            case rel => exact ⟨q + 1, by omega, by go_num, below_drewN hbq _, hnext.out⟩
            case measure => simp [intOf]; omega
        · obtain rfl : q = k := by omega
          have hnext : Hid (∀ j : Nat, j < q + 1 → dupAt s.data.toList j = false) := Lib.hid fun j hj => by
            rcases Nat.lt_or_ge j q with h' | h'
            · exact hall.out j h'
            · obtain rfl : j = q := by omega
              exact dupAt_no hby.out hne.out
          go_wp2
          go_roundw
          case rel => exact ⟨q + 1, by omega, by go_num, hbq, hnext.out⟩
          case measure => simp [intOf]; omega
    · obtain rfl : k = s.size := by omega
      have hdist : Hid (distB s.data.toList = true) := Lib.hid (distB_yes fun i hi => hall.out i hi)
      cases htx : (decide ((s.size : Int) ≤ 7) && bytesIn 32 126 s) with
      | false =>
        have hres : Hid (r = ([], 2)) := Lib.hid (by rw [hr.out, pairsOf, alphaB, htx]; simp)
        have hc1 := Lib.hid (fun W => text_spec s 7 false htx W (by unfold maxLen; omega))
        clear htx
        go_wp2_with fail
        refine (hc1.out _).mono ?_
        rintro e w1 ⟨rfl, rfl⟩
        go_wp2
        go_ret2
        exact PsOut.bad hres.out hbo
      | true =>
        have hc1 := Lib.hid (fun W => text_spec s 7 true htx W (by unfold maxLen; omega))
        by_cases h2 : 2 ≤ s.size
        · have g2 : decide ((s.size : Int) < 2) = false := decide_eq_false (by omega)
          by_cases h4 : t.size ≤ 4000
          · have g4 : decide ((4000 : Int) < (t.size : Int)) = false := decide_eq_false (by omega)
            have hres : Hid (r = (pairsTo s.data.toList t.data.toList (t.size - 1), 0)) := Lib.hid (by rw [hr.out, pairsOf, alphaB, htx, hdist.out]; simp [h2, h4])
            have n7 : s.size ≤ 7 := by simp only [Bool.and_eq_true, decide_eq_true_eq] at htx; omega
            have hmk2 := fun W => run_make_many (P := Try.prog) 36 2 j0 _ Try.underlying36 hj hy0 .i64 .i64 s.size (by rw [hy2]; omega) (by omega) W
            rw [hy1] at hmk2
            have hnl : Hid (s.data.toList.length = s.size) := Lib.hid rfl
            clear htx
            go_wp2_with fail
            refine (hc1.out _).mono ?_
            rintro e w1 ⟨rfl, rfl⟩
            go_wp2
            have hown0 : (wo.alloc (.cells #[] 36)).ownsRow w.heap.size 36 1 (.slice (some ⟨wo.heap.size, 0, none⟩) 0 0) 0 [] := by
              have := World.ownsRow_lit (w := wo) (e := 36) (base := w.heap.size) (size := 1) #[] 0 hbo.size (by simp [maxLen]) (by simp)
              simpa using this
            have hst0 : Hid (OutInv w.heap.size s.size 0 (.slice (some ⟨wo.heap.size, 0, none⟩) 0 0) [] (wo.alloc (.cells #[] 36))) := Lib.hid ⟨rfl, hown0, fun i r hr => by simp at hr, fun i r p hr => by simp at hr, fun i j r s p q _ hr => by simp at hr⟩
            have hbel0 : Hid (Below w.heap.size w (wo.alloc (.cells #[] 36))) := Lib.hid (hbo.alloc hbo.size _)
            clear hown0 hc1 hr
            generalize hws : wo.alloc (.cells #[] 36) = ws at *
            clear hws
            go_loopw [9, 10] (fun v i wr => ∃ (k : Nat) (rs : List RowD), k ≤ s.size ∧ i = .int .i64 k ∧ OutInv w.heap.size s.size k v rs wr ∧ Below w.heap.size w wr) (fun _ i _ => s.size - (intOf i).toNat)
            case atStart => exact ⟨0, [], by omega, rfl, hst0.out, hbel0.out⟩
            case round =>
              obtain ⟨k, rs, hk, rfl, hO, hbr⟩ := hrel
              rename World => wr
              by_cases hlt2 : k < s.size
              · have hvn : ∃ A c, u9 = .slice A k c := by
                  rcases hO.2.1.2 with ⟨h8, h9⟩ | ⟨g', cap', cur, h8, _⟩
                  · exact ⟨none, 0, by rw [h8, h9]⟩
                  · exact ⟨_, _, h8⟩
                obtain ⟨A, c, rfl⟩ := hvn
                have hown1 := Lib.hid (hO.2.1)
                have hb1 := Lib.hid (below_a2 wr (.cells (madeCells #[.int .i64 0] s.size) 2) (.cells #[.slice (some ⟨wr.heap.size, 0, none⟩) s.size s.size] 36))
                have hnew1 : Hid (OInts ((wr.alloc (.cells (madeCells #[.int .i64 0] s.size) 2)).alloc (.cells #[.slice (some ⟨wr.heap.size, 0, none⟩) s.size s.size] 36)) wr.heap.size (some ⟨wr.heap.size, 0, none⟩) s.size (List.replicate s.size 0)) := Lib.hid ((made_zero wr s.size).below (below_a1 _ _))
                have hstep := Lib.hid (fun g cap w5 => hO.step (n := s.size) (g := g) (cap := cap) (w5 := w5) hbr.size hb1.out hnew1.out)
                go_wp2_with (at_builtin; refine wpList_append_lies _ rfl _ _ 42 rfl w.heap.size 36 i0 _ 1 24 Try.underlying42 hi hz0 hz1 hz2 rfl (by decide) _ k (rs.flatMap RowD.cells) rfl ((hown1.out.alloc _).alloc _) ⟨wr.heap.size + 1, 0, none⟩ 1 1 [.slice (some ⟨wr.heap.size, 0, none⟩) s.size s.size] rfl rfl ?c1 ?c2 (by decide) ?c3 ?c4 ?c5 _ rfl ?_)
                case c1 =>
                  intro j u hj
                  match j, hj with
                  | 0, hj => cases hj; exact cell_new (by simp) rfl
                  | j + 1, hj => simp at hj
                case c2 =>
                  intro u hu
                  simp only [List.mem_cons, List.not_mem_nil, or_false] at hu
                  subst hu
                  rfl
                case c3 => unfold maxLen; omega
                case c4 => omega
                case c5 => have := hbr.size; simp; omega
                intro g cap w5 ho5 hg5 hor5 hlt5
                have hnx := Lib.hid (hstep.out g cap w5 ho5 hg5 (by simpa using hor5))
                have hbel5 : Hid (Below w.heap.size w w5) := Lib.hid (Below.grown (hbr.trans (hb1.out.mono hbr.size)) hg5 (by have := hbr.size; simp; omega) (fun j hj => (hO.lt j hj).1))
                clear ho5 hg5 hor5 hO
                go_wp2
                go_roundw
                case rel => exact ⟨k + 1, _, by omega, by go_num, hnx.out, hbel5.out⟩
                case measure => simp [intOf]; omega
              · obtain rfl : k = s.size := by omega
                obtain ⟨A, c, rfl, hO2⟩ := hO.done (by omega)
                have hstart : Hid (OIntSS wr w.heap.size wr.heap.size A s.size (pairsTo s.data.toList t.data.toList 0)) := Lib.hid hO2
                clear hO hO2 hmk2
                have hbr' := Lib.hid hbr
                go_wp2
                go_loopw [11] (fun i wq => ∃ m : Nat, 1 ≤ m ∧ m - 1 ≤ t.size - 1 ∧ i = .int .i64 m ∧ OIntSS wq w.heap.size wr.heap.size A s.size (pairsTo s.data.toList t.data.toList (m - 1)) ∧ Below w.heap.size w wq ∧ wr.heap.size ≤ wq.heap.size) (fun i _ => t.size + 1 - (intOf i).toNat)
                case atStart => exact ⟨1, by omega, by omega, rfl, hstart.out, hbr'.out, Nat.le_refl _⟩
                case round =>
                  obtain ⟨m, hm1, hmt, rfl, hO, hbq, hwq⟩ := hrel
                  rename World => wq
                  by_cases hltm : m < t.size
                  · have hnx := Lib.hid (pairsTo_next (s := s) hm1 hltm)
                    have hok := pairsTo_ok s.data.toList t.data.toList (m - 1)
                    rw [hnl.out] at hok
                    have hcx := Lib.hid (fun W => idx_spec s (t[m - 1]'(by omega)) W hs)
                    have hcy := Lib.hid (fun W => idx_spec s (t[m]'hltm) W hs)
                    have hXl := Lib.hid (fun (o : Nat) (ho : Lib.indexByte s.data.toList (t[m - 1]'(by omega)) = o) => idx_lt ho)
                    have hYl := Lib.hid (fun (o : Nat) (ho : Lib.indexByte s.data.toList (t[m]'hltm) = o) => idx_lt ho)
                    have hskip := Lib.hid (pstep_skip (L := s.data.toList) (T := pairsTo s.data.toList t.data.toList (m - 1)) (x := t[m - 1]'(by omega)) (y := t[m]'hltm))
                    have hdo := Lib.hid (fun (a c : Nat) (ha : Lib.indexByte s.data.toList (t[m - 1]'(by omega)) = a) (hc : Lib.indexByte s.data.toList (t[m]'hltm) = c) => pstep_do (L := s.data.toList) (T := pairsTo s.data.toList t.data.toList (m - 1)) (x := t[m - 1]'(by omega)) (y := t[m]'hltm) (a := a) (c := c) ha hc)
                    have hgx := Lib.indexByte_ge s.data.toList (t[m - 1]'(by omega))
                    have hgy := Lib.indexByte_ge s.data.toList (t[m]'hltm)
                    generalize hTT : pairsTo s.data.toList t.data.toList (m - 1) = TT at *
                    replace hTT := Lib.hid hTT
                    generalize hX : Lib.indexByte s.data.toList (t[m - 1]'(by omega)) = X at *
                    generalize hY : Lib.indexByte s.data.toList (t[m]'hltm) = Y at *
                    replace hX := Lib.hid hX
                    replace hY := Lib.hid hY
                    have k0 : (0 : Int) ≤ (m : Int) := Int.natCast_nonneg _
                    have k1 : (m : Int) < (t.size : Int) := by omega
                    have k2 : (0 : Int) ≤ (m : Int) - 1 := by omega
                    have k3 : (m : Int) - 1 < (t.size : Int) := by omega
                    have k4 : (1 : Int) ≤ (m : Int) := by omega
                    have q1 : ((m : Int) - 1).toNat = m - 1 := by omega
                    have hmm : Hid (m + 1 - 1 = m) := Lib.hid (by omega)
                    by_cases hx0 : 0 ≤ X
                    · have ex : decide (0 ≤ X) = true := decide_eq_true hx0
                      by_cases hy0 : 0 ≤ Y
                      · have ey : decide (0 ≤ Y) = true := decide_eq_true hy0
                        obtain ⟨a, rfl⟩ : ∃ a : Nat, X = a := ⟨X.toNat, by omega⟩
                        obtain ⟨cc', rfl⟩ : ∃ c : Nat, Y = c := ⟨Y.toNat, by omega⟩
                        have ha := hXl.out a rfl
                        have hc := hYl.out cc' rfl
                        rw [hnl.out] at ha hc
                        have hbump : Hid (pairsTo s.data.toList t.data.toList m = bump TT a cc') := Lib.hid (by rw [hnx.out, hdo.out a cc' rfl rfl])
                        obtain ⟨g, hb, cc, z, rfl, hne, hlo, hglt, hblt, c0, d0, e0, z0, z1, hO2, _⟩ := hO.raise hok ha hc
                        clear hx0 hy0 hskip hdo hXl hYl hnx hok hgx hgy ex ey
                        have a0 : (0 : Int) ≤ (a : Int) := Int.natCast_nonneg _
                        have a1 : (a : Int) < (s.size : Int) := by omega
                        have b0 : (0 : Int) ≤ (cc' : Int) := Int.natCast_nonneg _
                        have b1 : (cc' : Int) < (s.size : Int) := by omega
                        have hmin := Lib.hid (fun W => min_spec 1000 (z + 1) W)
                        generalize hM : min 1000 (z + 1) = M at *
                        replace hM := Lib.hid hM
                        have s2 : IntKind.i64.wrap (z + 1) = z + 1 := IntWalk.i64_in _ (by omega)
                        have hO3 : Hid (OIntSS (wq.setCell ⟨hb, cc', none⟩ (.int .i64 M)) w.heap.size wr.heap.size (some ⟨g, 0, none⟩) s.size (pairsTo s.data.toList t.data.toList (m + 1 - 1))) := Lib.hid (by rw [hmm.out, hbump.out]; exact hO2)
                        have hbq3 := Lib.hid (hbq.setCell (p := ⟨hb, cc', none⟩) hlo (.int .i64 M))
                        have hwq3 : Hid (wr.heap.size ≤ (wq.setCell ⟨hb, cc', none⟩ (.int .i64 M)).heap.size) := Lib.hid (by simpa [World.setCell] using hwq)
                        have c9 : Hid ((wq.setCell ⟨hb, cc', none⟩ (.int .i64 M)).cell? ⟨g, a, none⟩ = some (.slice (some ⟨hb, 0, none⟩) s.size cc)) := Lib.hid (by
                          rw [World.cell?_setCell_other _ _ _ _ (fun e => by have h9 := congrArg Addr.block e; simp only at h9; omega)]
                          exact c0)
                        clear hO2 hO
                        go_wp2_with fail
                        refine (hcx.out _).mono ?_
                        rintro e w3 ⟨rfl, rfl⟩
                        go_wp2_with fail
                        refine (hcy.out _).mono ?_
                        rintro e w3 ⟨rfl, rfl⟩
                        go_wp2_with fail
                        refine wp_region_held_drew (S := fun w' => w'.cell? ⟨g, a, none⟩ = some (.slice (some ⟨hb, 0, none⟩) s.size cc)) (by kernel_rfl) ?_ (fun hHeld => ?_)
                        · exact c0
                        refine wpAnyH_take (i := 0) (v := ?va0) rfl (by kernel_rfl) (by kernel_rfl) (by kernel_rfl) (fun _ _ _ h => h) (Or.inl ⟨rfl, ?ya0⟩) (by assumption) ?_
                        case ya0 => (intro w hSw; (try dsimp only at hSw); go_simp; first | done | with_reducible rfl)
                        simp only [List.getElem_toArray, List.getElem_cons_succ, List.getElem_cons_zero, Act.put, List.setIfInBounds_toArray, List.set_cons_zero, List.set_cons_succ]
                        refine wpAnyH_take (i := 1) (v := ?va1) rfl (by kernel_rfl) (by kernel_rfl) (by kernel_rfl) (fun _ _ _ h => h) (Or.inl ⟨rfl, ?ya1⟩) (by assumption) ?_
                        case ya1 => (intro w hSw; (try dsimp only at hSw); go_simp; first | done | with_reducible rfl)
                        simp only [List.getElem_toArray, List.getElem_cons_succ, List.getElem_cons_zero, Act.put, List.setIfInBounds_toArray, List.set_cons_zero, List.set_cons_succ]
                        refine wpAnyH_take (i := 2) (v := ?va2) rfl (by kernel_rfl) (by kernel_rfl) (by kernel_rfl) (fun _ _ _ h => h) (Or.inl ⟨rfl, ?ya2⟩) (by assumption) ?_
                        case ya2 => (intro w hSw; (try dsimp only at hSw); go_simp; first | done | with_reducible rfl)
                        simp only [List.getElem_toArray, List.getElem_cons_succ, List.getElem_cons_zero, Act.put, List.setIfInBounds_toArray, List.set_cons_zero, List.set_cons_succ]
                        refine wpAnyH_take (i := 3) (v := ?va3) rfl (by kernel_rfl) (by kernel_rfl) (by kernel_rfl) (fun _ _ _ h => h) (Or.inl ⟨rfl, ?ya3⟩) (by assumption) ?_
                        case ya3 => (intro w hSw; (try dsimp only at hSw); go_simp; first | done | with_reducible rfl)
                        simp only [List.getElem_toArray, List.getElem_cons_succ, List.getElem_cons_zero, Act.put, List.setIfInBounds_toArray, List.set_cons_zero, List.set_cons_succ]
                        refine wpAnyH_take (i := 4) (v := ?va4) rfl (by kernel_rfl) (by kernel_rfl) (by kernel_rfl) (fun _ _ _ h => h) (Or.inl ⟨rfl, ?ya4⟩) (by assumption) ?_
                        case ya4 => (intro w hSw; (try dsimp only at hSw); go_simp; first | done | with_reducible rfl)
                        simp only [List.getElem_toArray, List.getElem_cons_succ, List.getElem_cons_zero, Act.put, List.setIfInBounds_toArray, List.set_cons_zero, List.set_cons_succ]
                        refine wpAnyH_take (i := 5) (v := ?va5) rfl (by kernel_rfl) (by kernel_rfl) (by kernel_rfl) (fun _ _ _ h => h) (Or.inl ⟨rfl, ?ya5⟩) (by assumption) ?_
                        case ya5 => (intro w hSw; (try dsimp only at hSw); go_simp; first | done | with_reducible rfl)
                        simp only [List.getElem_toArray, List.getElem_cons_succ, List.getElem_cons_zero, Act.put, List.setIfInBounds_toArray, List.set_cons_zero, List.set_cons_succ]
                        refine wpAnyH_take (i := 6) (v := ?va6) rfl (by kernel_rfl) (by kernel_rfl) (by kernel_rfl) (fun _ _ _ h => h) (Or.inl ⟨rfl, ?ya6⟩) (by assumption) ?_
                        case ya6 => (intro w hSw; (try dsimp only at hSw); go_simp; first | done | with_reducible rfl)
                        simp only [List.getElem_toArray, List.getElem_cons_succ, List.getElem_cons_zero, Act.put, List.setIfInBounds_toArray, List.set_cons_zero, List.set_cons_succ]
                        refine wpAnyH_take (i := 7) (v := ?va7) rfl (by kernel_rfl) (by kernel_rfl) (by kernel_rfl) (fun _ _ _ h => h) (Or.inl ⟨rfl, ?ya7⟩) (by assumption) ?_
                        case ya7 => (intro w hSw; (try dsimp only at hSw); go_simp; first | done | with_reducible rfl)
                        simp only [List.getElem_toArray, List.getElem_cons_succ, List.getElem_cons_zero, Act.put, List.setIfInBounds_toArray, List.set_cons_zero, List.set_cons_succ]
                        refine wpAnyH_take (i := 8) (v := ?va8) rfl (by kernel_rfl) (by kernel_rfl) (by kernel_rfl) (fun _ _ _ h => h) (Or.inl ⟨rfl, ?ya8⟩) (by assumption) ?_
                        case ya8 => (intro w hSw; (try dsimp only at hSw); go_simp; first | done | with_reducible rfl)
                        simp only [List.getElem_toArray, List.getElem_cons_succ, List.getElem_cons_zero, Act.put, List.setIfInBounds_toArray, List.set_cons_zero, List.set_cons_succ]
                        refine wpAnyH_take (i := 9) (v := ?va9) rfl (by kernel_rfl) (by kernel_rfl) (by kernel_rfl) (fun _ _ _ h => h) (Or.inl ⟨rfl, ?ya9⟩) (by assumption) ?_
                        case ya9 => (intro w hSw; (try dsimp only at hSw); go_simp; first | done | with_reducible rfl)
                        simp only [List.getElem_toArray, List.getElem_cons_succ, List.getElem_cons_zero, Act.put, List.setIfInBounds_toArray, List.set_cons_zero, List.set_cons_succ]
                        refine wpAnyH_take (i := 10) (v := ?va10) rfl (by kernel_rfl) (by kernel_rfl) (by kernel_rfl) (fun _ _ _ h => h) (Or.inl ⟨rfl, ?ya10⟩) (by assumption) ?_
                        case ya10 => (intro w hSw; (try dsimp only at hSw); go_simp; first | done | with_reducible rfl)
                        simp only [List.getElem_toArray, List.getElem_cons_succ, List.getElem_cons_zero, Act.put, List.setIfInBounds_toArray, List.set_cons_zero, List.set_cons_succ]
                        refine wpAnyH_ready (rs := [11]) (by kernel_rfl) (by simp) ?_
                        refine AllReadyH.cons rfl (fun K hK => ?_) AllReadyH.nil
                        go_simp
                        refine hK.out _ _ hHeld (fun hHeld => ?_)
                        clear hK K
                        try simp only [List.getElem_toArray, List.getElem_cons_succ, List.getElem_cons_zero, Act.put, List.setIfInBounds_toArray, List.set_cons_zero, List.set_cons_succ]
                        refine wpAnyH_take (i := 12) (v := ?vr12) rfl (by kernel_rfl) (by kernel_rfl) (by kernel_rfl) (fun _ _ _ h => h) (Or.inl ⟨rfl, ?yr12⟩) (by assumption) ?_
                        case yr12 => (intro w hSw; (try dsimp only at hSw); go_simp; first | done | with_reducible rfl)
                        simp only [List.getElem_toArray, List.getElem_cons_succ, List.getElem_cons_zero, Act.put, List.setIfInBounds_toArray, List.set_cons_zero, List.set_cons_succ]
                        refine wpAnyH_ready (rs := [13]) (by kernel_rfl) (by simp) ?_
                        refine AllReadyH.cons rfl (fun K hK => ?_) AllReadyH.nil
                        go_simp
                        refine (hmin.out _).mono ?_
                        rintro e w4 ⟨rfl, rfl⟩
                        go_wp2_with fail
                        refine hK.out _ _ hHeld (fun hHeld => ?_)
                        clear hK K
                        try simp only [List.getElem_toArray, List.getElem_cons_succ, List.getElem_cons_zero, Act.put, List.setIfInBounds_toArray, List.set_cons_zero, List.set_cons_succ]
                        refine wpAnyH_take (i := 14) (v := ?vr14) rfl (by kernel_rfl) (by kernel_rfl) (by kernel_rfl) (fun _ _ _ h => h) (Or.inl ⟨rfl, ?yr14⟩) (by assumption) ?_
                        case yr14 => (intro w hSw; (try dsimp only at hSw); go_simp; first | done | with_reducible rfl)
                        simp only [List.getElem_toArray, List.getElem_cons_succ, List.getElem_cons_zero, Act.put, List.setIfInBounds_toArray, List.set_cons_zero, List.set_cons_succ]
                        refine wpAnyH_ready (rs := [15]) (by kernel_rfl) (by simp) ?_
                        refine AllReadyH.cons rfl (fun K hK => ?_) AllReadyH.nil
                        go_simp
                        refine hK.out _ _ c9.out (fun hHeld => ?_)
                        clear hK K
                        try simp only [List.getElem_toArray, List.getElem_cons_succ, List.getElem_cons_zero, Act.put, List.setIfInBounds_toArray, List.set_cons_zero, List.set_cons_succ]
                        refine wpAnyH_done (by kernel_rfl) ?_ _
                        clear s2
                        go_wp2
                        go_roundw
                        case rel => exact ⟨m + 1, by omega, by omega, by go_num, hO3.out, hbq3.out.drew, hwq3.out⟩
                        case measure => simp [intOf]; omega
                      · have ey : decide (0 ≤ Y) = false := decide_eq_false hy0
                        have hO3 : Hid (OIntSS wq w.heap.size wr.heap.size A s.size (pairsTo s.data.toList t.data.toList (m + 1 - 1))) := Lib.hid (by rw [hmm.out, hnx.out, hskip.out (fun h => hy0 h.2)]; exact hO)
                        clear hO hskip hdo hXl hYl hnx hok hx0 hy0
                        go_wp2_with fail
                        refine (hcx.out _).mono ?_
                        rintro e w3 ⟨rfl, rfl⟩
                        go_wp2_with fail
                        refine (hcy.out _).mono ?_
                        rintro e w3 ⟨rfl, rfl⟩
                        go_wp2
                        go_roundw
                        case rel => exact ⟨m + 1, by omega, by omega, by go_num, hO3.out, hbq, hwq⟩
                        case measure => simp [intOf]; omega
                    · have ex : decide (0 ≤ X) = false := decide_eq_false hx0
                      have hO3 : Hid (OIntSS wq w.heap.size wr.heap.size A s.size (pairsTo s.data.toList t.data.toList (m + 1 - 1))) := Lib.hid (by rw [hmm.out, hnx.out, hskip.out (fun h => hx0 h.1)]; exact hO)
                      clear hO hskip hdo hXl hYl hnx hok hx0
                      go_wp2_with fail
                      refine (hcx.out _).mono ?_
                      rintro e w3 ⟨rfl, rfl⟩
                      go_wp2_with fail
                      refine (hcy.out _).mono ?_
                      rintro e w3 ⟨rfl, rfl⟩
                      go_wp2
                      go_roundw
                      case rel => exact ⟨m + 1, by omega, by omega, by go_num, hO3.out, hbq, hwq⟩
                      case measure => simp [intOf]; omega
                  · have hfin : Hid (OIntSS wq w.heap.size wq.heap.size A s.size r.1) := Lib.hid (by
                      rw [hres.out]
                      have : m - 1 = t.size - 1 := by omega
                      rw [← this]
                      exact hO.mono hwq)
                    have hcode : Hid (r.2 = 0) := Lib.hid (by rw [hres.out])
                    clear hO
                    go_wp2
                    go_ret2
                    exact ⟨_, s.size, _, by rw [hcode.out]; rfl, by omega, hfin.out, hbq⟩
          · have g4 : decide ((4000 : Int) < (t.size : Int)) = true := decide_eq_true (by omega)
            have hres : Hid (r = ([], 2)) := Lib.hid (by rw [hr.out, pairsOf]; simp [h4])
            clear htx
            go_wp2_with fail
            refine (hc1.out _).mono ?_
            rintro e w1 ⟨rfl, rfl⟩
            go_wp2
            go_ret2
            exact PsOut.bad hres.out hbo
        · have g2 : decide ((s.size : Int) < 2) = true := decide_eq_true (by omega)
          have hres : Hid (r = ([], 2)) := Lib.hid (by rw [hr.out, pairsOf, alphaB]; simp [h2])
          clear htx
          go_wp2_with fail
          refine (hc1.out _).mono ?_
          rintro e w1 ⟨rfl, rfl⟩
          go_wp2
          go_ret2
          exact PsOut.bad hres.out hbo
end Go.Proofs.Ytmnafnjhioeicaa
