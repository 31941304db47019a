/- ExchangePlan: the program's function. -/
import Derived.Test.YticggclpaalhgaaPln4
namespace Go.Proofs.Yticggclpaalhgaa
open Go.RowKit Go.ChangeShapes Go.WideShapes Go.Deep
set_option linter.unusedVariables false
set_option linter.unusedSimpArgs false

theorem flat6_keys : ∀ (l : List ByteArray) (i : Nat), (keysFrom i l).map (·.1) = flat6 l
  | [], _ => rfl
  | s :: l, i => by
    have h1 : ∀ (m : List UInt8) (r j : Nat), (rowKeys r j m).map (·.1) = m := fun m => by
      induction m with
      | nil => intro r j; rfl
      | cons c m ih => intro r j; simp [rowKeys, ih]
    simp only [keysFrom, List.map_append, h1, flat6_keys l (i + 1)]
    rfl
theorem flat6_nodup {l : List ByteArray} (h : layOk l = true) : (flat6 l).Nodup := by
  rw [← flat6_keys l 0]; exact layOk_nodup h
theorem flat6_in {a b : List ByteArray} (o1 : layOk a = true) (o2 : layOk b = true) (o3 : sameShape a b = true) (o4 : allIn a b = true) : ∀ x ∈ flat6 b, x ∈ flat6 a := by
  rw [← flat6_keys a 0, ← flat6_keys b 0]
  exact allIn_iff.1 (allIn_rev o1 o3 o4)
set_option maxRecDepth 100000 in
set_option maxHeartbeats 3200000 in
theorem ex_any (A : Option Addr) (n c : Nat) (xs : List ByteArray) (B : Option Addr) (m d : Nat) (ys : List ByteArray) (w : World) (h : Strs w A n xs) (hn : n ≤ 1048576) (hs : ∀ s ∈ xs, s.size ≤ 1048576) (h' : Strs w B m ys) (hm : m ≤ 1048576) (hs' : ∀ s ∈ ys, s.size ≤ 1048576) (hc : n ≤ c) (hd : m ≤ d) :
    Calls Try.prog 30 #[.agg #[.slice A n c], .agg #[.slice B m d]] w (ExOut (exR xs ys) w) := by
  have hb0 := Lib.hid (below_a2 w (.cells #[.slice A n c] 27) (.cells #[.slice B m d] 27))
  have hq := Lib.hid (fun W (hW : Strs W A n xs) (hW' : Strs W B m ys) => cmp_any A n c xs B m d ys W hW hn hs hW' hm hs')
  have k0 : ((w.alloc (.cells #[.slice A n c] 27)).alloc (.cells #[.slice B m d] 27)).cell? ⟨w.heap.size, 0, none⟩ = some (.slice A n c) := cell_on (cell_new rfl rfl) _
  have k1 : ((w.alloc (.cells #[.slice A n c] 27)).alloc (.cells #[.slice B m d] 27)).cell? ⟨w.heap.size + 1, 0, none⟩ = some (.slice B m d) := cell_new (by simp) rfl
  have hlx := Lib.hid h.1
  obtain ⟨i0, hi, hz0, hz1, hz2⟩ := info_parts Try.infoStr
  have hly := Lib.hid h'.1
  go_enter Try.func30, Try.ntmps30
  go_wp2_with fail
  refine (hq.out _ (h.below hb0.out) (h'.below hb0.out)).mono ?_
  rintro e w1 (⟨h1, M1, M2, rfl, hM0, hN0, hM1, hN1, hb1⟩ | ⟨h1, rfl, hb1⟩)
  · have hbw := Lib.hid (hb0.out.step hb1)
    obtain ⟨⟨o1, o2⟩, o3, o4⟩ := bothCode_0 h1
    have hres : Hid (exR xs ys = ((planAt (flat6 xs) (flat6 ys) (flat6 ys).length).2, 0)) := Lib.hid (by simp [exR, h1])
    have hfx := Lib.hid (flat6_ok o1)
    have hfy := Lib.hid (flat6_ok o2)
    have hnm : n = m := by rw [← hlx.out, ← hly.out]; exact shape_n o3
    have hfl : (flat6 xs).length = (flat6 ys).length := by
      rw [flat6_len, flat6_len, of_decide_eq_true o3]
    subst hnm
    have hn1 : 1 ≤ n := by have := (layOk_iff.1 o1).1.1; have := hlx.out; omega
    have hX := h.below hbw.out
    have hY := h'.below hbw.out
    have hk := Lib.hid (keys_any A n c xs w1 hX hn1 hc hn (by have := hfx.out; omega))
    have hk2 := Lib.hid (fun W (hW : Strs W B n ys) => keys_any B n d ys W hW hn1 hd hn (by have := hfy.out; omega))
    replace k0 := cell_step k0 hb1
    replace k1 := cell_step k1 hb1
    clear hM0 hN0 hM1 hN1 hb1 h1 hb0 hq
    go_wp2_with fail
    refine hk.out.mono ?_
    rintro e w2 ⟨rfl, hb2⟩
    have hbw2 := Lib.hid (hbw.out.step hb2)
    have hcv := Lib.run_convert_string_bytes (P := Try.prog) w2 9 81 5 ⟨(flat6 xs).toArray⟩ Try.underlying9 Try.underlying81 Try.underlying5
    have hrow := brow_new w2 ⟨(flat6 xs).toArray⟩
    have hbb := Lib.hid (bytesWorld_below w2 ⟨(flat6 xs).toArray⟩)
    have hG0 : w2.heap.size < (Lib.bytesWorld w2 5 ⟨(flat6 xs).toArray⟩).heap.size := by rw [Lib.bytesWorld_size]; omega
    rw [show (⟨(flat6 xs).toArray⟩ : ByteArray).size = (flat6 xs).length by show (flat6 xs).toArray.size = _; simp] at hcv
    rw [show (⟨(flat6 xs).toArray⟩ : ByteArray).data.toList = flat6 xs from rfl] at hrow
    generalize Lib.bytesWorld w2 5 ⟨(flat6 xs).toArray⟩ = wb at *
    generalize grownCap w2 (flat6 xs).length 0 5 = cp at *
    replace hrow := Lib.hid hrow
    have hbw3 := Lib.hid (hbw2.out.step hbb.out)
    have hY3 := h'.below hbw3.out
    replace k1 := cell_step (cell_step k1 hb2) hbb.out
    clear hbw hk hb2
    go_wp2_with fail
    refine (hk2.out _ hY3).mono ?_
    rintro e w3 ⟨rfl, hb3⟩
    have hbw4 := Lib.hid (hbw3.out.step hb3)
    go_wp2
    have hM0 : PiW w w3 w2.heap.size (.slice none 0 0) [] (flat6 xs) :=
      ⟨hbw4.out, ⟨fun i b hi => (World.cell?_of_block (a := ⟨w2.heap.size, i, none⟩) (hb3.block _ hG0)).trans (hrow.out.cell i b hi), fun i hi => (World.frozen?_of_block (a := ⟨w2.heap.size, i, none⟩) (hb3.block _ hG0)).trans (hrow.out.free i hi)⟩, hbw2.out.size, Nat.lt_of_lt_of_le hG0 hb3.size, ⟨rfl, .inl ⟨rfl, rfl⟩⟩, fun g hg => by simp [Value.ownBlock] at hg⟩
    replace hM0 := Lib.hid hM0
    generalize w2.heap.size = G at *
    have hnd := Lib.hid (flat6_nodup o1)
    have hin := Lib.hid (flat6_in o1 o2 o3 o4)
    clear o1 o2 o3 o4 hb3 hbw4 hY3 hX hY hk2 k0 k1 hbw2 hbw3 hbb hrow hcv hG0
    generalize ht : (⟨(flat6 ys).toArray⟩ : ByteArray) = t at *
    have htl : t.data.toList = flat6 ys := by rw [← ht]
    have hts : t.size = (flat6 ys).length := by rw [← htl, size_len]
    clear ht
    generalize hN : (flat6 ys).length = N at *
    go_loopw [9, 12, 13, 31] (fun V _ _ i wr => ∃ k : Nat, k ≤ N ∧ i = .int .i64 (k : Int) ∧ PiW w wr G V (planAt (flat6 xs) (flat6 ys) k).2 (planAt (flat6 xs) (flat6 ys) k).1) (fun _ _ _ i _ => N - (intOf i).toNat)
    case atStart => exact ⟨0, by omega, rfl, hM0.out⟩
    case round =>
      rename World => wr
      obtain ⟨k, hk, rfl, hM⟩ := hrel
      replace hM := Lib.hid hM
      have hlen := planAt_len (fa := flat6 xs) (fb := flat6 ys) k
      have hN48 := hfy.out
      by_cases hlt : k < N
      · have hk0 : (0 : Int) ≤ (k : Int) := Int.natCast_nonneg _
        have hk1 : (k : Int) < (N : Int) := by omega
        have hx := List.getElem?_eq_getElem (l := (planAt (flat6 xs) (flat6 ys) k).1) (i := k) (by omega)
        have hlt2 : k < t.size := by omega
        have hk2 : (k : Int) < (t.size : Int) := by omega
        have hy := bytes_at t hlt2
        rw [htl] at hy
        generalize (planAt (flat6 xs) (flat6 ys) k).1[k]'(by omega) = u at *
        have c0 := hM.out.keys.cell k _ hx
        by_cases heq : u = t[k]'hlt2
        · have hnx := Lib.hid (planAt_same hx (heq ▸ hy))
          have ge : ((u.toNat : Int) == ((t[k]'hlt2).toNat : Int)) = true := by rw [heq]; exact beq_self_eq_true _
          have ge2 : (((t[k]'hlt2).toNat : Int) == ((t[k]'hlt2).toNat : Int)) = true := beq_self_eq_true _
          clear heq hx hy
          go_wp2_with fail
          go_quiet (fail)
          go_wp2
          go_roundw
          case rel => exact ⟨k + 1, by omega, by go_num, by rw [hnx.out]; exact hM.out.same rfl (below_drewN hM.out.bel _)⟩
          case measure => simp [intOf]; omega
        · have hnx := Lib.hid (planAt_chg hx hy heq)
          have ge : ((u.toNat : Int) == ((t[k]'hlt2).toNat : Int)) = false := beq_eq_false_iff_ne.2 (fun e => heq (UInt8.toNat_inj.1 (by omega)))
          have hvin := Lib.hid ((planAt_mem hin.out k (t[k]'hlt2)).2 (hin.out _ (List.mem_of_getElem? hy)))
          have hsw := Lib.hid (fun j (hj : (planAt (flat6 xs) (flat6 ys) k).1[j]? = some (t[k]'hlt2)) => swap_chg (planAt_nodup (fb := flat6 ys) hnd.out k) hx hj)
          have hLb := Lib.hid (planAt_out (flat6 xs) (flat6 ys) k)
          have hx' := Lib.hid hx
          have hlen' := Lib.hid hlen
          clear heq hx hy hlen
          generalize hKL : planAt (flat6 xs) (flat6 ys) k = KL at *
          obtain ⟨l, L⟩ := KL
          go_wp2_with fail
          go_quiet (fail)
          go_wp2_with fail
          refine wp_region_held_drew (S := fun w' => w'.cell? ⟨G, k, none⟩ = some (.int .u8 (u.toNat : Int))) (by kernel_rfl) ?_ (fun hHeld => ?_)
          · exact c0
          refine wpAnyH_take (i := 0) (v := ?va0) rfl (by kernel_rfl) (by kernel_rfl) (by kernel_rfl) (fun _ _ _ h => h) (Or.inl ⟨rfl, ?ya0⟩) (by assumption) ?_
          case ya0 => (intro w hSw; (try dsimp only at hSw); go_simp; first | done | with_reducible rfl)
          simp only [List.getElem_toArray, List.getElem_cons_succ, List.getElem_cons_zero, Act.put, List.setIfInBounds_toArray, List.set_cons_zero, List.set_cons_succ]
          refine wpAnyH_take (i := 1) (v := ?va1) rfl (by kernel_rfl) (by kernel_rfl) (by kernel_rfl) (fun _ _ _ h => h) (Or.inl ⟨rfl, ?ya1⟩) (by assumption) ?_
          case ya1 => (intro w hSw; (try dsimp only at hSw); go_simp; first | done | with_reducible rfl)
          simp only [List.getElem_toArray, List.getElem_cons_succ, List.getElem_cons_zero, Act.put, List.setIfInBounds_toArray, List.set_cons_zero, List.set_cons_succ]
          refine wpAnyH_take (i := 2) (v := ?va2) rfl (by kernel_rfl) (by kernel_rfl) (by kernel_rfl) (fun _ _ _ h => h) (Or.inl ⟨rfl, ?ya2⟩) (by assumption) ?_
          case ya2 => (intro w hSw; (try dsimp only at hSw); go_simp; first | done | with_reducible rfl)
          simp only [List.getElem_toArray, List.getElem_cons_succ, List.getElem_cons_zero, Act.put, List.setIfInBounds_toArray, List.set_cons_zero, List.set_cons_succ]
          refine wpAnyH_take (i := 3) (v := ?va3) rfl (by kernel_rfl) (by kernel_rfl) (by kernel_rfl) (fun _ _ _ h => h) (Or.inl ⟨rfl, ?ya3⟩) (by assumption) ?_
          case ya3 => (intro w hSw; (try dsimp only at hSw); go_simp; first | done | with_reducible rfl)
          simp only [List.getElem_toArray, List.getElem_cons_succ, List.getElem_cons_zero, Act.put, List.setIfInBounds_toArray, List.set_cons_zero, List.set_cons_succ]
          refine wpAnyH_take (i := 4) (v := ?va4) rfl (by kernel_rfl) (by kernel_rfl) (by kernel_rfl) (fun _ _ _ h => h) (Or.inl ⟨rfl, ?ya4⟩) (by assumption) ?_
          case ya4 => (intro w hSw; (try dsimp only at hSw); go_simp; first | done | with_reducible rfl)
          simp only [List.getElem_toArray, List.getElem_cons_succ, List.getElem_cons_zero, Act.put, List.setIfInBounds_toArray, List.set_cons_zero, List.set_cons_succ]
          refine wpAnyH_take (i := 5) (v := ?va5) rfl (by kernel_rfl) (by kernel_rfl) (by kernel_rfl) (fun _ _ _ h => h) (Or.inl ⟨rfl, ?ya5⟩) (by assumption) ?_
          case ya5 => (intro w hSw; (try dsimp only at hSw); go_simp; first | done | with_reducible rfl)
          simp only [List.getElem_toArray, List.getElem_cons_succ, List.getElem_cons_zero, Act.put, List.setIfInBounds_toArray, List.set_cons_zero, List.set_cons_succ]
          refine wpAnyH_take (i := 6) (v := ?va6) rfl (by kernel_rfl) (by kernel_rfl) (by kernel_rfl) (fun _ _ _ h => h) (Or.inl ⟨rfl, ?ya6⟩) (by assumption) ?_
          case ya6 => (intro w hSw; (try dsimp only at hSw); go_simp; first | done | with_reducible rfl)
          simp only [List.getElem_toArray, List.getElem_cons_succ, List.getElem_cons_zero, Act.put, List.setIfInBounds_toArray, List.set_cons_zero, List.set_cons_succ]
          refine wpAnyH_take (i := 7) (v := ?va7) rfl (by kernel_rfl) (by kernel_rfl) (by kernel_rfl) (fun _ _ _ h => h) (Or.inl ⟨rfl, ?ya7⟩) (by assumption) ?_
          case ya7 => (intro w hSw; (try dsimp only at hSw); go_simp; first | done | with_reducible rfl)
          simp only [List.getElem_toArray, List.getElem_cons_succ, List.getElem_cons_zero, Act.put, List.setIfInBounds_toArray, List.set_cons_zero, List.set_cons_succ]
          refine wpAnyH_ready (rs := [8]) (by kernel_rfl) (by simp) ?_
          refine AllReadyH.cons rfl (fun K hK => ?_) AllReadyH.nil
          go_simp
          refine hK.out _ _ ?_ (fun hHeld => ?_)
          · exact cell_on (show (wr.drewN (nq + 1)).cell? ⟨G, k, none⟩ = _ from c0) _
          clear hK K
          try simp only [List.getElem_toArray, List.getElem_cons_succ, List.getElem_cons_zero, Act.put, List.setIfInBounds_toArray, List.set_cons_zero, List.set_cons_succ]
          have hM1 : Hid (PiW w (wr.drewN (nq + 1)) G u9 L l) := Lib.hid (hM.out.same rfl (below_drewN hM.out.bel _))
          have hs1 : (wr.drewN (nq + 1)).heap.size = wr.heap.size := rfl
          have hblk := heap_alloc_new (wr.drewN (nq + 1)) (.cells #[.int .u8 (u.toNat : Int), .int .u8 ((t[k]'hlt2).toNat : Int)] 5)
          rw [hs1] at hblk
          have hback := run_convert_bytes_back (P := Try.prog) ((wr.drewN (nq + 1)).alloc (.cells #[.int .u8 (u.toNat : Int), .int .u8 ((t[k]'hlt2).toNat : Int)] 5)) 81 9 5 ⟨wr.heap.size, 0, none⟩ 2 [u, t[k]'hlt2] Try.underlying81 Try.underlying5 Try.underlying9 (fun j hj => by
            have h2 : j < 2 := hj
            match j, h2 with
            | 0, _ => exact World.news_of_block hblk 0 _ rfl
            | 1, _ => exact World.news_of_block hblk 1 _ rfl)
          rw [show [u, t[k]'hlt2].length = 2 from rfl, show (⟨[u, t[k]'hlt2].toArray⟩ : ByteArray) = ⟨#[u, t[k]'hlt2]⟩ from rfl] at hback
          refine wpAnyH_ready (rs := [9]) (by kernel_rfl) (by simp) ?_
          refine AllReadyH.cons rfl (fun K hK => ?_) AllReadyH.nil
          go_simp
          refine hK.out _ _ ?_ (fun hHeld => ?_)
          · exact cell_on (show (wr.drewN (nq + 1)).cell? ⟨G, k, none⟩ = _ from c0) _
          clear hK K
          try simp only [List.getElem_toArray, List.getElem_cons_succ, List.getElem_cons_zero, Act.put, List.setIfInBounds_toArray, List.set_cons_zero, List.set_cons_succ]
          have hst2 := Lib.hid (hM1.out.below (below_a2 (wr.drewN (nq + 1)) (.cells #[.int .u8 (u.toNat : Int), .int .u8 ((t[k]'hlt2).toNat : Int)] 5) (.cells #[.string ⟨#[u, t[k]'hlt2]⟩] 9)))
          have hnew : Hid (∀ (j : Nat) x, [Value.string ⟨#[u, t[k]'hlt2]⟩][j]? = some x → (((wr.drewN (nq + 1)).alloc (.cells #[.int .u8 (u.toNat : Int), .int .u8 ((t[k]'hlt2).toNat : Int)] 5)).alloc (.cells #[.string ⟨#[u, t[k]'hlt2]⟩] 9)).cell? ((⟨wr.heap.size + 1, 0, none⟩ : Addr).add j) = some x) := Lib.hid (by
            have hb2 := heap_alloc_new ((wr.drewN (nq + 1)).alloc (.cells #[.int .u8 (u.toNat : Int), .int .u8 ((t[k]'hlt2).toNat : Int)] 5)) (.cells #[.string ⟨#[u, t[k]'hlt2]⟩] 9)
            rw [World.size_alloc, hs1] at hb2
            exact World.news_of_block hb2)
          refine wpAnyH_ready (rs := [10]) (by kernel_rfl) (by simp) ?_
          refine AllReadyH.cons rfl (fun K hK => ?_) AllReadyH.nil
          go_simp
          refine hK.out _ _ ?_ (fun hHeld => ?_)
          · exact cell_on (cell_on (show (wr.drewN (nq + 1)).cell? ⟨G, k, none⟩ = _ from c0) _) _
          clear hK K
          try simp only [List.getElem_toArray, List.getElem_cons_succ, List.getElem_cons_zero, Act.put, List.setIfInBounds_toArray, List.set_cons_zero, List.set_cons_succ]
          refine wpAnyH_ready (rs := [11]) (by kernel_rfl) (by simp) ?_
          refine AllReadyH.cons rfl (fun K hK => ?_) AllReadyH.nil
          refine step_append_lies _ rfl (.tmp 42) (.tmp 52) 22 rfl w.heap.size 9 i0 _ 1 16 Try.underlying22 hi hz0 hz1 hz2 rfl (by decide) u9 L.length (L.flatMap strC) rfl hst2.out.out ⟨wr.heap.size + 1, 0, none⟩ 1 1 [.string ⟨#[u, t[k]'hlt2]⟩] rfl rfl hnew.out ?b2 (by decide) ?d2 ?e2 ?f2 _ rfl (fun g9 cap9 w5 ho5 hg5 hlie5 hlt5 => ?_)
          case b2 => intro x hx; simp only [List.mem_cons, List.not_mem_nil, or_false] at hx; subst hx; rfl
          case d2 => have := hLb.out; unfold maxLen; omega
          case e2 => have := hLb.out; omega
          case f2 => have := hM.out.bel.size; simp only [World.size_alloc, hs1]; omega
          have hpush := Lib.hid (hst2.out.push (V' := .slice (some ⟨g9, 0, none⟩) (L.length + 1) cap9) (L' := L ++ [⟨#[u, t[k]'hlt2]⟩]) hg5 rfl hlie5 (by rw [str_snoc, List.length_append]; exact ho5))
          have c5 := hpush.out.keys.cell k u hx'.out
          refine hK.out _ _ c5 (fun hHeld5 => ?_)
          clear hK K hg5 ho5 hlie5 hlt5 hst2 hnew hback hM1 hblk
          try simp only [List.getElem_toArray, List.getElem_cons_succ, List.getElem_cons_zero, Act.put, List.setIfInBounds_toArray, List.set_cons_zero, List.set_cons_succ]
          refine wpAnyH_take (i := 12) (v := ?va12) rfl (by kernel_rfl) (by kernel_rfl) (by kernel_rfl) (fun _ _ _ h => h) (Or.inl ⟨rfl, ?ya12⟩) (by assumption) ?_
          case ya12 => (intro w hSw; (try dsimp only at hSw); go_simp; first | done | with_reducible rfl)
          simp only [List.getElem_toArray, List.getElem_cons_succ, List.getElem_cons_zero, Act.put, List.setIfInBounds_toArray, List.set_cons_zero, List.set_cons_succ]
          refine wpAnyH_done (by kernel_rfl) ?_ _
          have hLN : l.length = N := by have := hlen'.out; omega
          obtain ⟨j, hj1, hj2⟩ := idx_is hvin.out
          have hjN : j < N := by rw [← hLN]; exact (List.getElem?_eq_some_iff.1 hj2).1
          have hbx := Lib.hid (bidx_any G cp l (t[k]'hlt2) w5 hpush.out.keys)
          rw [hLN, hj1] at hbx
          go_wp2_with fail
          refine hbx.out.mono ?_
          rintro e w6 ⟨rfl, rfl⟩
          clear hbx
          have hkl : k < l.length := by omega
          have hjl : j < l.length := by omega
          have d1 := hpush.out.keys.cell j _ hj2
          have f0 := hpush.out.keys.free k hkl
          have hset := hpush.out.set (i := k) (b := t[k]'hlt2) hkl
          have f1 := hset.keys.free j (by simp; omega)
          have hset2 := Lib.hid (hset.set (i := j) (b := u) (by simp; omega))
          rw [hsw.out j hj2] at hset2
          have d2 : ∃ z, (w6.setCell ⟨G, k, none⟩ (.int .u8 ((t[k]'hlt2).toNat : Int))).cell? ⟨G, j, none⟩ = some z := ⟨_, hset.keys.cell j _ (List.getElem?_eq_getElem (by simp; omega))⟩
          obtain ⟨z2, d2⟩ := d2
          have j0 : (0 : Int) ≤ (j : Int) := Int.natCast_nonneg _
          have j1 : (j : Int) < (N : Int) := by omega
          clear hset hpush hj1 hj2 hx' hvin hsw hM0
          go_wp2_with fail
          go_region
          go_wp2
          go_roundw
          case rel => exact ⟨k + 1, by omega, by go_num, by rw [hnx.out]; exact hset2.out.same rfl ⟨hset2.out.bel.os, hset2.out.bel.tape, hset2.out.bel.output, hset2.out.bel.size, hset2.out.bel.block⟩⟩
          case measure => simp [intOf]; omega
      · obtain rfl : k = N := by omega
        obtain ⟨A9, c9, rfl, hO⟩ := str_row rfl hM.out.out
        have hO := Lib.hid hO
        have hb9 := Lib.hid hM.out.bel
        have hlo := planAt_out (flat6 xs) (flat6 ys) k
        have hfy' := hfy.out
        clear hM hM0
        go_wp2
        go_ret2
        exact ⟨A9, _, c9, by rw [hres.out]; rfl, by omega, by rw [hres.out]; exact hO.out, hb9.out⟩
  · have hbw := Lib.hid (hb0.out.step hb1)
    have hres : Hid (exR xs ys = ([], bothCode xs ys)) := Lib.hid (by simp [exR, h1])
    generalize bothCode xs ys = code at *
    have g0 : (code == 0) = false := beq_eq_false_iff_ne.2 h1
    have g1 : (code != 0) = true := by simp [h1]
    clear h1
    go_wp2
    go_ret2
    exact ⟨none, 0, 0, by rw [hres.out]; rfl, by omega, by rw [hres.out]; exact ORow.nil_, hbw.out⟩
end Go.Proofs.Yticggclpaalhgaa
