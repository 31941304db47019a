/- The best breaks: the program's endings, each word. -/
import Derived.Test.YtcaojaaooadeaaaLn17
namespace Go.Proofs.Ytcaojaaooadeaaa
open Go.RowKit Go.ChangeShapes Go.WideShapes Go.Deep
set_option linter.unusedVariables false
set_option linter.unusedSimpArgs false

set_option maxRecDepth 100000 in
set_option maxHeartbeats 2400000 in
theorem ending9 (b off n c : Nat) (ws : List ByteArray) (W M : Nat) (hW : W ≤ 80) (hn : n ≤ 900) (hc : n ≤ c) (hl : ws.length = n) (hs : ∀ x ∈ ws, x.size ≤ W) : ∀ (m i : Nat), n - i = m → i < n → ∀ (w : World) (l : List (Nat × Value)), MapIs encN w M l → MInv W ws l → Strs w (some ⟨b, off, none⟩) n ws → b ≠ M →
    Calls Try.prog 51 #[.agg #[.slice (some ⟨b, off, none⟩) n c, .int .i64 (W : Int), .map (some M)], .int .i64 (i : Int)] w (EnOut W ws i M l w) := by
  intro m
  induction m using Nat.strongRecOn with
  | _ m ih =>
  intro i hm hin w l hM hinv hS hbM
  replace hm := Lib.hid hm
  cases hv : (valOf i l).isSome with
  | true => exact known9 _ n c ws W M i w l hM hinv hv
  | false =>
    have hno : valOf i l = none := by cases h : valOf i l with | none => rfl | some v => rw [h] at hv; cases hv
    have hval : Hid ((valOf i l).getD (.agg #[.int .i64 0, .int .i64 0]) = .agg #[.int .i64 0, .int .i64 0]) := Lib.hid (by rw [hno]; rfl)
    have hok : Hid ((valOf i l).isSome = false) := Lib.hid hv
    have hM2 := hM.grown9 (below_a2 w (.cells #[.slice (some ⟨b, off, none⟩) n c, .int .i64 (W : Int), .map (some M)] 59) (.cells #[.int .i64 0, .int .i64 0] 61))
    have hbA := below_a3 w (.cells #[.slice (some ⟨b, off, none⟩) n c, .int .i64 (W : Int), .map (some M)] 59) (.cells #[.int .i64 0, .int .i64 0] 61) (.cells #[.int .i64 0, .int .i64 0] 61)
    have hxA : (((w.alloc (.cells #[.slice (some ⟨b, off, none⟩) n c, .int .i64 (W : Int), .map (some M)] 59)).alloc (.cells #[.int .i64 0, .int .i64 0] 61)).alloc (.cells #[.int .i64 0, .int .i64 0] 61)).heap[w.heap.size]? = some (.cells #[.slice (some ⟨b, off, none⟩) n c, .int .i64 (W : Int), .map (some M)] 59) := by
      rw [Lib.alloc_old _ _ _ (by simp <;> omega), Lib.alloc_old _ _ _ (by simp)]; exact heap_alloc_new _ _
    have hrA : (((w.alloc (.cells #[.slice (some ⟨b, off, none⟩) n c, .int .i64 (W : Int), .map (some M)] 59)).alloc (.cells #[.int .i64 0, .int .i64 0] 61)).alloc (.cells #[.int .i64 0, .int .i64 0] 61)).heap[w.heap.size + 1]? = some (.cells #[.int .i64 0, .int .i64 0] 61) := by
      rw [Lib.alloc_old _ _ _ (by simp)]
      have := heap_alloc_new (w.alloc (.cells #[.slice (some ⟨b, off, none⟩) n c, .int .i64 (W : Int), .map (some M)] 59)) (.cells #[.int .i64 0, .int .i64 0] 61)
      simpa using this
    have hsA : w.heap.size + 2 < (((w.alloc (.cells #[.slice (some ⟨b, off, none⟩) n c, .int .i64 (W : Int), .map (some M)] 59)).alloc (.cells #[.int .i64 0, .int .i64 0] 61)).alloc (.cells #[.int .i64 0, .int .i64 0] 61)).heap.size := by simp <;> omega
    have hblt : b < w.heap.size := (strs_cells hS (by omega)).1
    have hMl := hM.lt
    obtain ⟨F, hF⟩ : ∃ F, fitI W ws i = F := ⟨_, rfl⟩
    have hF1 : 1 ≤ F := by rw [← hF]; exact fitI_one hs (by rw [hl]; exact hin)
    have hFn : F ≤ n - i := by rw [← hF, ← hl]; exact fitI_le W ws i
    have hfa := Lib.hid (fun W' (hW' : Strs W' (some ⟨b, off + i, none⟩) (n - i) (ws.drop i)) => fit9_impl (some ⟨b, off + i, none⟩) (n - i) (c - i) (ws.drop i) W (by omega) W' hW' (by omega) (by omega) (fun x hx => by have := hs x (List.mem_of_mem_drop hx); omega))
    rw [show fitN W (ws.drop i) = F from hF] at hfa
    obtain ⟨e, he⟩ : ∃ e, i + F = e := ⟨_, rfl⟩
    have hlast : IntKind.i64.wrap ((i : Int) + (F : Int)) = (e : Int) := by rw [IntWalk.i64_in _ (by omega)]; omega
    replace he := Lib.hid he
    have hvw := Lib.hid (fun W' (hW' : Strs W' (some ⟨b, off, none⟩) n ws) => show Strs W' (some ⟨b, off + i, none⟩) (n - i) (ws.drop i) by
      obtain ⟨b', off', e, _, hV⟩ := view9 hW' (a := i) (e := n) hin (Nat.le_refl _)
      cases e
      rwa [List.take_of_length_le (by rw [List.length_drop, hl]; omega)] at hV)
    have hi0 : (0 : Int) ≤ (i : Int) := Int.natCast_nonneg _
    have hi1 : (i : Int) ≤ (c : Int) := by omega
    have hi2 : (i : Int) ≤ (n : Int) := by omega
    have hi3 : ¬ c = i := by omega
    have hS0 := Lib.hid hS
    have hM0 := Lib.hid hM
    have hinv0 := Lib.hid hinv
    have hno0 := Lib.hid hno
    have hih := Lib.hid ih
    clear hv hM hinv hno ih
    go_enter Try.func51, Try.ntmps51
    go_wp2_with (at_lookup; refine wpList_look_is rfl _ _ _ 3 61 rfl natKey9 Try.underlying57 (zero_end9 _) rfl hM2 i rfl hval.out hok.out ?_)
    clear hM2
    generalize hwA : ((w.alloc (.cells #[.slice (some ⟨b, off, none⟩) n c, .int .i64 (W : Int), .map (some M)] 59)).alloc (.cells #[.int .i64 0, .int .i64 0] 61)).alloc (.cells #[.int .i64 0, .int .i64 0] 61) = wA at *
    clear hwA
    have a0 : wA.cell? ⟨w.heap.size, 0, none⟩ = some (.slice (some ⟨b, off, none⟩) n c) := own_cell hxA rfl
    have a1 : wA.cell? ⟨w.heap.size, 1, none⟩ = some (.int .i64 (W : Int)) := own_cell hxA rfl
    have hSA := hS0.out.below hbA
    go_wp2_with fail
    refine wp_region_held_drew (S := fun w' => Below wA.heap.size wA w' ∧ w'.cell? ⟨w.heap.size, 0, none⟩ = some (.slice (some ⟨b, off, none⟩) n c) ∧ w'.cell? ⟨w.heap.size, 1, none⟩ = some (.int .i64 (W : Int))) (by kernel_rfl) ?_ (fun hHeld => ?_)
    · exact ⟨(Below.refl _ _).drew, a0, a1⟩
    refine wpAnyH_take (i := 0) (v := ?vaU1_0) rfl (by kernel_rfl) (by kernel_rfl) (by kernel_rfl) (fun _ _ _ h => h) (Or.inl ⟨rfl, ?yaU1_0⟩) (by assumption) ?_
    case yaU1_0 => (intro w hSw; (try dsimp only at hSw); go_simp; first | done | with_reducible rfl)
    simp only [List.getElem_toArray, List.getElem_cons_succ, List.getElem_cons_zero, Act.put, List.setIfInBounds_toArray, List.set_cons_zero, List.set_cons_succ]
    refine wpAnyH_take (i := 1) (v := ?vaU1_1) rfl (by kernel_rfl) (by kernel_rfl) (by kernel_rfl) (fun _ _ _ h => h) (Or.inl ⟨rfl, ?yaU1_1⟩) (by assumption) ?_
    case yaU1_1 => (intro w hSw; (try dsimp only at hSw); go_simp; first | done | with_reducible rfl)
    simp only [List.getElem_toArray, List.getElem_cons_succ, List.getElem_cons_zero, Act.put, List.setIfInBounds_toArray, List.set_cons_zero, List.set_cons_succ]
    refine wpAnyH_take (i := 2) (v := ?vaU1_2) rfl (by kernel_rfl) (by kernel_rfl) (by kernel_rfl) (fun _ _ _ h => h) (Or.inl ⟨rfl, ?yaU1_2⟩) (by assumption) ?_
    case yaU1_2 => (intro w hSw; (try dsimp only at hSw); go_simp; first | done | with_reducible rfl)
    simp only [List.getElem_toArray, List.getElem_cons_succ, List.getElem_cons_zero, Act.put, List.setIfInBounds_toArray, List.set_cons_zero, List.set_cons_succ]
    refine wpAnyH_take (i := 3) (v := ?vaU1_3) rfl (by kernel_rfl) (by kernel_rfl) (by kernel_rfl) (fun _ _ _ h => h) (Or.inl ⟨rfl, ?yaU1_3⟩) (by assumption) ?_
    case yaU1_3 => (intro w hSw; (try dsimp only at hSw); go_simp; first | done | with_reducible rfl)
    simp only [List.getElem_toArray, List.getElem_cons_succ, List.getElem_cons_zero, Act.put, List.setIfInBounds_toArray, List.set_cons_zero, List.set_cons_succ]
    refine wpAnyH_take (i := 4) (v := ?vaU1_4) rfl (by kernel_rfl) (by kernel_rfl) (by kernel_rfl) (fun _ _ _ h => h) (Or.inl ⟨rfl, ?yaU1_4⟩) (by assumption) ?_
    case yaU1_4 => (intro w hSw; (try dsimp only at hSw); go_simp; first | done | with_reducible rfl)
    simp only [List.getElem_toArray, List.getElem_cons_succ, List.getElem_cons_zero, Act.put, List.setIfInBounds_toArray, List.set_cons_zero, List.set_cons_succ]
    refine wpAnyH_take (i := 5) (v := ?vaU1_5) rfl (by kernel_rfl) (by kernel_rfl) (by kernel_rfl) (fun _ _ _ h => h) (Or.inl ⟨rfl, ?yaU1_5⟩) (by assumption) ?_
    case yaU1_5 => (intro w hSw; (try dsimp only at hSw); go_simp; first | done | with_reducible rfl)
    simp only [List.getElem_toArray, List.getElem_cons_succ, List.getElem_cons_zero, Act.put, List.setIfInBounds_toArray, List.set_cons_zero, List.set_cons_succ]
    refine wpAnyH_take (i := 6) (v := ?vaU1_6) rfl (by kernel_rfl) (by kernel_rfl) (by kernel_rfl) (fun _ _ _ h => h) (Or.inl ⟨rfl, ?yaU1_6⟩) (by assumption) ?_
    case yaU1_6 => (intro w hSw; (try dsimp only at hSw); go_simp; first | done | with_reducible rfl)
    simp only [List.getElem_toArray, List.getElem_cons_succ, List.getElem_cons_zero, Act.put, List.setIfInBounds_toArray, List.set_cons_zero, List.set_cons_succ]
    refine wpAnyH_ready (rs := [7]) (by kernel_rfl) (by simp) ?_
    refine AllReadyH.cons rfl (fun K hK => ?_) AllReadyH.nil
    go_simp
    refine (hfa.out _ (hvw.out _ (hSA.below hHeld.1))).mono ?_
    rintro e wB ⟨rfl, hbB⟩
    go_wp2_with fail
    refine hK.out _ _ ?_ (fun hHeld => ?_)
    · exact ⟨hHeld.1.step hbB, cell_step hHeld.2.1 hbB, cell_step hHeld.2.2 hbB⟩
    clear hK K
    try simp only [List.getElem_toArray, List.getElem_cons_succ, List.getElem_cons_zero, Act.put, List.setIfInBounds_toArray, List.set_cons_zero, List.set_cons_succ]
    refine wpAnyH_take (i := 8) (v := ?vaU1_8) rfl (by kernel_rfl) (by kernel_rfl) (by kernel_rfl) (fun _ _ _ h => h) (Or.inl ⟨rfl, ?yaU1_8⟩) (by assumption) ?_
    case yaU1_8 => (intro w hSw; (try dsimp only at hSw); go_simp; first | done | with_reducible rfl)
    simp only [List.getElem_toArray, List.getElem_cons_succ, List.getElem_cons_zero, Act.put, List.setIfInBounds_toArray, List.set_cons_zero, List.set_cons_succ]
    refine wpAnyH_take (i := 9) (v := ?vaU1_9) rfl (by kernel_rfl) (by kernel_rfl) (by kernel_rfl) (fun _ _ _ h => h) (Or.inl ⟨rfl, ?yaU1_9⟩) (by assumption) ?_
    case yaU1_9 => (intro w hSw; (try dsimp only at hSw); go_simp; first | done | with_reducible rfl)
    simp only [List.getElem_toArray, List.getElem_cons_succ, List.getElem_cons_zero, Act.put, List.setIfInBounds_toArray, List.set_cons_zero, List.set_cons_succ]
    refine wpAnyH_done (by kernel_rfl) ?_ _
    have hbB := hHeld.1
    have e0 : wB.heap[w.heap.size]? = _ := (hbB.block _ (own_lt hxA)).trans hxA
    have e1 : wB.heap[w.heap.size + 1]? = _ := (hbB.block _ (own_lt hrA)).trans hrA
    have hES : ∀ x y : Int, ES W ws (some ⟨b, off, none⟩) n c M i l w wB.heap.size x y (wB.alloc (.cells #[.int .i64 x, .int .i64 y] 61)) := fun x y =>
      ⟨by rw [Lib.alloc_old _ _ _ (own_lt e0)]; exact e0, by rw [Lib.alloc_old _ _ _ (own_lt e1)]; exact e1, heap_alloc_new _ _, ((hSA.below hbB).below (below_a1 _ _)), ⟨l, (hM0.out.grown9 (hbA.step hbB)).grown9 (below_a1 _ _), hinv0.out, fun _ _ => rfl⟩, grown_below ((hbA.step hbB).step (below_a1 _ _)) _, by have := hbB.size; omega, hMl, fun p hp => by cases hp; exact ⟨hblt, hbM⟩⟩
    have hzB := Nat.lt_of_lt_of_le hsA hbB.size
    have q0 : w.heap.size < wB.heap.size := by omega
    have q1 : w.heap.size + 1 < wB.heap.size := by omega
    have c0 : wB.cell? ⟨w.heap.size, 0, none⟩ = some (.slice (some ⟨b, off, none⟩) n c) := own_cell e0 rfl
    have c2 : wB.cell? ⟨w.heap.size, 2, none⟩ = some (.map (some M)) := own_cell e0 rfl
    replace hES := Lib.hid hES
    clear hHeld a0 a1 hSA hbA hxA hrA hsA hbB e0 e1
    by_cases hall : e = n
    · have g1 : ¬ ((e : Int) < (n : Int)) := by omega
      have hE : endE W ws i = (0, i + fitI W ws i) := end_all (by rw [hl, hF, he.out]; omega)
      have hEV : Hid (endV W ws i = .agg #[.int .i64 0, .int .i64 (e : Int)]) := Lib.hid (by rw [endV, hE, hF, he.out])
      have hes := hES.out 0 (e : Int)
      replace hall := Lib.hid hall
      replace hE := Lib.hid hE
      obtain ⟨l', m1, m2, m3⟩ := hes.map
      have hn9 : Hid (valOf i l' = none) := Lib.hid (by rw [m3 i (Nat.le_refl _)]; exact hno0.out)
      have hd := Lib.hid (fun w5 (m5 : MapIs encN w5 M (l' ++ [(i, .agg #[.int .i64 (0), .int .i64 ((e : Int))])])) hg => hes.done hEV.out m2 m3 m5 hg)
      clear hes m2 m3
      go_wp2_with (at_mapUpdate; refine wpList_put_is rfl _ _ _ _ 3 61 rfl natKey9 Try.underlying57 rfl m1 i (.agg #[.int .i64 (0), .int .i64 ((e : Int))]) rfl rfl hn9.out ?_)
      intro w5 m5 hg5
      obtain ⟨d0, d1, d2, d3, d4, d5, d6, d7, hfin⟩ := hd.out w5 m5 hg5
      clear m5 hg5 hd m1
      go_wp2
      obtain ⟨z0, z1, z2⟩ := hfin.out _ rfl
      generalize (w5.setCell ⟨w.heap.size + 1, 0, none⟩ (.int .i64 (0))).setCell ⟨w.heap.size + 1, 1, none⟩ (.int .i64 ((e : Int))) = w9 at *
      refine bodyPost_ret (v := .agg #[.int .i64 (0), .int .i64 ((e : Int))]) (by simp [results, Try.results51, go_sem, z0, z1]) rfl ?_
      exact z2
    · have g1 : (e : Int) < (n : Int) := by have := he.out; omega
      have hstp := step_E hW hs (by rw [hl]; exact hn) (i := i) (by rw [hl, hF, he.out]; have := he.out; omega)
      have hsc0 := hstp.scan
      rw [hF, he.out] at hsc0
      have hcst := Lib.hid hstp.cost
      have hen0 : e < n := by have := he.out; omega
      have her := Lib.hid (fun k => end_le hW hs (by rw [hl]; exact hn) k)
      have hwi : IntKind.i64.wrap ((i : Int) + 1) = ((i + 1 : Nat) : Int) := by rw [IntWalk.i64_in _ (by omega)]; omega
      have hsn0 := Lib.hid (fun q => scan_snoc (costE W ws i) q (i + 1) (BIG, e))
      have hs0 := Lib.hid hs
      have heF := he.out
      replace hsc0 := Lib.hid hsc0
      replace hF := Lib.hid hF
      replace hall := Lib.hid hall
      clear hstp hS hval hok hfa hvw hs
      go_wp2
      go_loopw [9, 10] (fun nx _ wi => ∃ k : Nat, i + 1 ≤ k ∧ k ≤ e + 1 ∧ nx = .int .i64 (k : Int) ∧ ES W ws (some ⟨b, off, none⟩) n c M i l w wB.heap.size (scanE (costE W ws i) (k - (i + 1)) (i + 1) (BIG, e)).1 ((scanE (costE W ws i) (k - (i + 1)) (i + 1) (BIG, e)).2 : Int) wi) (fun nx _ _ => e + 2 - (intOf nx).toNat)
      case atStart => exact ⟨i + 1, Nat.le_refl _, by omega, rfl, by rw [Nat.sub_self]; exact hES.out 9223372036854775807 (e : Int)⟩
      case round =>
        rename World => wi
        obtain ⟨k, hk1, hke, rfl, hE0⟩ := hrel
        obtain ⟨bv, bn, hsc⟩ : ∃ bv bn, scanE (costE W ws i) (k - (i + 1)) (i + 1) (BIG, e) = (bv, bn) := ⟨_, _, rfl⟩
        rw [hsc] at hE0
        simp only at hE0
        have d0 := hE0.c0
        have d1 := hE0.c1
        have d2 := hE0.c2
        have hbi := hE0.hi
        have hwlt := own_lt hE0.box
        by_cases hlt : k ≤ e
        · have hkn : k < n := by omega
          have hsn := hsn0.out (k - (i + 1))
          rw [hsc, show i + 1 + (k - (i + 1)) = k by omega, show k - (i + 1) + 1 = k + 1 - (i + 1) by omega] at hsn
          replace hsn := Lib.hid hsn
          obtain ⟨cr0, cr1⟩ := hcst.out k hk1 (by rw [hF.out]; omega)
          obtain ⟨er0, er1⟩ := her.out k
          have hfk := (fitI_iff (W := W) (ws := ws) (i := i) (k := k) (by omega) (by omega)).2 (by rw [hF.out]; omega)
          have hcE : costE W ws i k = ((W : Int) - (longN (lineW ws (i, k)) : Int)) * ((W : Int) - (longN (lineW ws (i, k)) : Int)) + (endE W ws k).1 := rfl
          obtain ⟨s0, s1⟩ := sq80 hW hfk
          have hwa := Lib.hid (fun W' (hW' : Strs W' (some ⟨b, off, none⟩) n ws) => waste9_impl b (off + i) (k - i) (c - i) (lineW ws (i, k)) (W : Int) W' (view_strs hW' (p := (i, k)) (by simp only; omega) (by simp only; omega)) (by omega) (by omega) (by omega) (fun x hx => by have := hs0.out x (lineW_mem hx); omega) (by omega) (by omega))
          obtain ⟨X, hX⟩ : ∃ X, (W : Int) - (longN (lineW ws (i, k)) : Int) = X := ⟨_, rfl⟩
          rw [hX] at hwa hcE s0 s1
          obtain ⟨Z, hZ⟩ : ∃ Z, X * X = Z := ⟨_, rfl⟩
          rw [hZ] at hcE s0 s1
          have hsq := Lib.hid (fun W' => square9 X Z hZ s0 s1 W')
          obtain ⟨E, hE⟩ : ∃ E, (endE W ws k).1 = E := ⟨_, rfl⟩
          obtain ⟨E2, hE2⟩ : ∃ E2 : Int, ((endE W ws k).2 : Int) = E2 := ⟨_, rfl⟩
          obtain ⟨C, hCC⟩ : ∃ C, costE W ws i k = C := ⟨_, rfl⟩
          rw [hE] at hcE er0 er1
          rw [hCC] at hcE cr0 cr1 hsn
          have hxc : IntKind.i64.wrap (Z + E) = C := by rw [IntWalk.i64_in _ (by omega)]; omega
          have hen : Hid (∀ (W' : World) (l5 : List (Nat × Value)), MapIs encN W' M l5 → MInv W ws l5 → Strs W' (some ⟨b, off, none⟩) n ws → Calls Try.prog 51 #[.agg #[.slice (some ⟨b, off, none⟩) n c, .int .i64 (W : Int), .map (some M)], .int .i64 (k : Int)] W' fun e w' => e = .returned (.agg #[.int .i64 E, .int .i64 E2]) ∧ ∃ l6, MapIs encN w' M l6 ∧ MInv W ws l6 ∧ (∀ j, j < k → valOf j l6 = valOf j l5) ∧ W'.grownBy w' (some M)) := Lib.hid (fun W' l5 h1 h2 h3 => by
            have := hih.out (n - k) (by have := hm.out; omega) k rfl hkn W' l5 h1 h2 h3 hbM
            unfold EnOut at this
            rw [endV, hE, hE2] at this
            exact this)
          have y1 : (k : Int) ≤ (e : Int) := by omega
          have y4 : (k : Int) ≤ (c : Int) := by omega
          have y5 : (i : Int) ≤ (k : Int) := by omega
          have y6 : (0 : Int) ≤ (k : Int) := Int.natCast_nonneg _
          have y8 : i < k := by omega
          have hwk : IntKind.i64.wrap ((k : Int) + 1) = ((k + 1 : Nat) : Int) := by rw [IntWalk.i64_in _ (by omega)]; omega
          have hfd : ∀ (v : World), (Instr.field 61 (.agg #[.int .i64 E, .int .i64 E2]) 0).run Try.prog v = .ok (.int .i64 E) v := fun v => by kernel_rfl
          have hE00 := Lib.hid hE0
          replace hX := Lib.hid hX
          replace hZ := Lib.hid hZ
          replace hE := Lib.hid hE
          replace hE2 := Lib.hid hE2
          replace hCC := Lib.hid hCC
          replace hcE := Lib.hid hcE
          replace hfk := Lib.hid hfk
          clear s0 s1 cr0 cr1 er0 er1 hE0
          go_wp2_with fail
          refine wp_region_held_drew (S := fun w' => w'.cell? ⟨w.heap.size, 0, none⟩ = some (.slice (some ⟨b, off, none⟩) n c) ∧ w'.cell? ⟨w.heap.size, 1, none⟩ = some (.int .i64 (W : Int)) ∧ w'.cell? ⟨w.heap.size, 2, none⟩ = some (.map (some M)) ∧ ES W ws (some ⟨b, off, none⟩) n c M i l w wB.heap.size bv (bn : Int) w') (by kernel_rfl) ?_ (fun hHeld => ?_)
          · exact ⟨d0, d1, d2, hE00.out.below (Below.refl _ _).drew⟩
          refine wpAnyH_take (i := 0) (v := ?vbU2_0) rfl (by kernel_rfl) (by kernel_rfl) (by kernel_rfl) (fun _ _ _ h => h) (Or.inl ⟨rfl, ?ybU2_0⟩) (by assumption) ?_
          case ybU2_0 => (intro w hSw; (try dsimp only at hSw); go_simp; first | done | with_reducible rfl)
          simp only [List.getElem_toArray, List.getElem_cons_succ, List.getElem_cons_zero, Act.put, List.setIfInBounds_toArray, List.set_cons_zero, List.set_cons_succ]
          refine wpAnyH_take (i := 1) (v := ?vbU2_1) rfl (by kernel_rfl) (by kernel_rfl) (by kernel_rfl) (fun _ _ _ h => h) (Or.inl ⟨rfl, ?ybU2_1⟩) (by assumption) ?_
          case ybU2_1 => (intro w hSw; (try dsimp only at hSw); go_simp; first | done | with_reducible rfl)
          simp only [List.getElem_toArray, List.getElem_cons_succ, List.getElem_cons_zero, Act.put, List.setIfInBounds_toArray, List.set_cons_zero, List.set_cons_succ]
          refine wpAnyH_take (i := 2) (v := ?vbU2_2) rfl (by kernel_rfl) (by kernel_rfl) (by kernel_rfl) (fun _ _ _ h => h) (Or.inl ⟨rfl, ?ybU2_2⟩) (by assumption) ?_
          case ybU2_2 => (intro w hSw; (try dsimp only at hSw); go_simp; first | done | with_reducible rfl)
          simp only [List.getElem_toArray, List.getElem_cons_succ, List.getElem_cons_zero, Act.put, List.setIfInBounds_toArray, List.set_cons_zero, List.set_cons_succ]
          refine wpAnyH_take (i := 3) (v := ?vbU2_3) rfl (by kernel_rfl) (by kernel_rfl) (by kernel_rfl) (fun _ _ _ h => h) (Or.inl ⟨rfl, ?ybU2_3⟩) (by assumption) ?_
          case ybU2_3 => (intro w hSw; (try dsimp only at hSw); go_simp; first | done | with_reducible rfl)
          simp only [List.getElem_toArray, List.getElem_cons_succ, List.getElem_cons_zero, Act.put, List.setIfInBounds_toArray, List.set_cons_zero, List.set_cons_succ]
          refine wpAnyH_take (i := 4) (v := ?vbU2_4) rfl (by kernel_rfl) (by kernel_rfl) (by kernel_rfl) (fun _ _ _ h => h) (Or.inl ⟨rfl, ?ybU2_4⟩) (by assumption) ?_
          case ybU2_4 => (intro w hSw; (try dsimp only at hSw); go_simp; first | done | with_reducible rfl)
          simp only [List.getElem_toArray, List.getElem_cons_succ, List.getElem_cons_zero, Act.put, List.setIfInBounds_toArray, List.set_cons_zero, List.set_cons_succ]
          refine wpAnyH_take (i := 5) (v := ?vbU2_5) rfl (by kernel_rfl) (by kernel_rfl) (by kernel_rfl) (fun _ _ _ h => h) (Or.inl ⟨rfl, ?ybU2_5⟩) (by assumption) ?_
          case ybU2_5 => (intro w hSw; (try dsimp only at hSw); go_simp; first | done | with_reducible rfl)
          simp only [List.getElem_toArray, List.getElem_cons_succ, List.getElem_cons_zero, Act.put, List.setIfInBounds_toArray, List.set_cons_zero, List.set_cons_succ]
          refine wpAnyH_take (i := 6) (v := ?vbU2_6) rfl (by kernel_rfl) (by kernel_rfl) (by kernel_rfl) (fun _ _ _ h => h) (Or.inl ⟨rfl, ?ybU2_6⟩) (by assumption) ?_
          case ybU2_6 => (intro w hSw; (try dsimp only at hSw); go_simp; first | done | with_reducible rfl)
          simp only [List.getElem_toArray, List.getElem_cons_succ, List.getElem_cons_zero, Act.put, List.setIfInBounds_toArray, List.set_cons_zero, List.set_cons_succ]
          refine wpAnyH_take (i := 9) (v := ?vbU2_9) rfl (by kernel_rfl) (by kernel_rfl) (by kernel_rfl) (fun _ _ _ h => h) (Or.inl ⟨rfl, ?ybU2_9⟩) (by assumption) ?_
          case ybU2_9 => (intro w hSw; (try dsimp only at hSw); go_simp; first | done | with_reducible rfl)
          simp only [List.getElem_toArray, List.getElem_cons_succ, List.getElem_cons_zero, Act.put, List.setIfInBounds_toArray, List.set_cons_zero, List.set_cons_succ]
          refine wpAnyH_take (i := 10) (v := ?vbU2_10) rfl (by kernel_rfl) (by kernel_rfl) (by kernel_rfl) (fun _ _ _ h => h) (Or.inl ⟨rfl, ?ybU2_10⟩) (by assumption) ?_
          case ybU2_10 => (intro w hSw; (try dsimp only at hSw); go_simp; first | done | with_reducible rfl)
          simp only [List.getElem_toArray, List.getElem_cons_succ, List.getElem_cons_zero, Act.put, List.setIfInBounds_toArray, List.set_cons_zero, List.set_cons_succ]
          refine wpAnyH_ready (rs := [7]) (by kernel_rfl) (by simp) ?_
          refine AllReadyH.cons rfl (fun K hK => ?_) AllReadyH.nil
          go_simp
          refine (hwa.out _ hHeld.2.2.2.st).mono ?_
          rintro e9 wx ⟨rfl, hbx⟩
          go_wp2_with fail
          refine hK.out _ _ ?_ (fun hHeld => ?_)
          · exact ⟨cell_step hHeld.1 hbx, cell_step hHeld.2.1 hbx, cell_step hHeld.2.2.1 hbx, hHeld.2.2.2.below hbx⟩
          clear hK K
          try simp only [List.getElem_toArray, List.getElem_cons_succ, List.getElem_cons_zero, Act.put, List.setIfInBounds_toArray, List.set_cons_zero, List.set_cons_succ]
          refine wpAnyH_ready (rs := [8]) (by kernel_rfl) (by simp) ?_
          refine AllReadyH.cons rfl (fun K hK => ?_) AllReadyH.nil
          go_simp
          refine (hsq.out _).mono ?_
          rintro e9 wx ⟨rfl, rfl⟩
          go_wp2_with fail
          refine hK.out _ _ ?_ (fun hHeld => ?_)
          · exact hHeld
          clear hK K
          try simp only [List.getElem_toArray, List.getElem_cons_succ, List.getElem_cons_zero, Act.put, List.setIfInBounds_toArray, List.set_cons_zero, List.set_cons_succ]
          refine wpAnyH_ready (rs := [11]) (by kernel_rfl) (by simp) ?_
          refine AllReadyH.cons rfl (fun K hK => ?_) AllReadyH.nil
          obtain ⟨l5, m5, i5, v5⟩ := hHeld.2.2.2.map
          go_simp
          refine (hen.out _ l5 m5 i5 hHeld.2.2.2.st).mono ?_
          rintro e9 wx ⟨rfl, l6, m6, i6, v6, hg6⟩
          have hE6 := hHeld.2.2.2.grown hg6 m6 i6 (fun j hj => (v6 j (by omega)).trans (v5 j hj))
          go_wp2_with fail
          refine hK.out _ _ ?_ (fun hHeld => ?_)
          · exact ⟨hE6.c0, hE6.c1, hE6.c2, hE6⟩
          clear hK K
          try simp only [List.getElem_toArray, List.getElem_cons_succ, List.getElem_cons_zero, Act.put, List.setIfInBounds_toArray, List.set_cons_zero, List.set_cons_succ]
          refine wpAnyH_take (i := 12) (v := ?vtbU2_12) rfl (by kernel_rfl) (by kernel_rfl) (by kernel_rfl) (fun _ _ _ h => h) (Or.inl ⟨rfl, ?ytbU2_12⟩) (by assumption) ?_
          case ytbU2_12 => (intro w hSw; (try dsimp only at hSw); go_simp; first | done | with_reducible rfl)
          simp only [List.getElem_toArray, List.getElem_cons_succ, List.getElem_cons_zero, Act.put, List.setIfInBounds_toArray, List.set_cons_zero, List.set_cons_succ]
          refine wpAnyH_take (i := 13) (v := ?vtbU2_13) rfl (by kernel_rfl) (by kernel_rfl) (by kernel_rfl) (fun _ _ _ h => h) (Or.inl ⟨rfl, ?ytbU2_13⟩) (by assumption) ?_
          case ytbU2_13 => (intro w hSw; (try dsimp only at hSw); go_simp; first | done | with_reducible rfl)
          simp only [List.getElem_toArray, List.getElem_cons_succ, List.getElem_cons_zero, Act.put, List.setIfInBounds_toArray, List.set_cons_zero, List.set_cons_succ]
          refine wpAnyH_take (i := 14) (v := ?vtbU2_14) rfl (by kernel_rfl) (by kernel_rfl) (by kernel_rfl) (fun _ _ _ h => h) (Or.inl ⟨rfl, ?ytbU2_14⟩) (by assumption) ?_
          case ytbU2_14 => (intro w hSw; (try dsimp only at hSw); go_simp; first | done | with_reducible rfl)
          simp only [List.getElem_toArray, List.getElem_cons_succ, List.getElem_cons_zero, Act.put, List.setIfInBounds_toArray, List.set_cons_zero, List.set_cons_succ]
          refine wpAnyH_done (by kernel_rfl) ?_ _
          have hE9 := Lib.hid hHeld.2.2.2
          have b0 := hE9.out.b0
          have b1 := hE9.out.b1
          have bf0 := own_frozen hE9.out.best 0
          have bf1 := own_frozen hE9.out.best 1
          have bl := hE9.out.hi
          by_cases hls : C < bv
          · have g5 : decide (C < bv) = true := decide_eq_true hls
            have hnx : Hid (scanE (costE W ws i) (k + 1 - (i + 1)) (i + 1) (BIG, e) = (C, k)) := Lib.hid (by rw [hsn.out, if_pos hls])
            replace hls := Lib.hid hls
            go_wp2
            go_roundw
            case rel => exact ⟨k + 1, by omega, by omega, by go_num, by rw [hnx.out]; exact hE9.out.store C (k : Int)⟩
            case measure => simp [intOf]; omega
          · have g5 : decide (C < bv) = false := decide_eq_false hls
            have hnx : Hid (scanE (costE W ws i) (k + 1 - (i + 1)) (i + 1) (BIG, e) = (bv, bn)) := Lib.hid (by rw [hsn.out, if_neg hls])
            replace hls := Lib.hid hls
            go_wp2
            go_roundw
            case rel => exact ⟨k + 1, by omega, by omega, by go_num, by rw [hnx.out]; exact hE9.out⟩
            case measure => simp [intOf]; omega
        · obtain rfl : k = e + 1 := by omega
          have g2 : ¬ ((e : Int) + 1 ≤ (e : Int)) := by omega
          have g3 : ¬ (((e + 1 : Nat) : Int) ≤ (e : Int)) := by omega
          have hEV : Hid (endV W ws i = .agg #[.int .i64 bv, .int .i64 (bn : Int)]) := Lib.hid (by
            have h9 := hsc0.out
            rw [show F = e + 1 - (i + 1) by have := he.out; omega, hsc] at h9
            rw [endV, h9])
          have hes := hE0
          have b0 := hE0.b0
          have b1 := hE0.b1
          replace hsc := Lib.hid hsc
          clear hE0
          obtain ⟨l', m1, m2, m3⟩ := hes.map
          have hn9 : Hid (valOf i l' = none) := Lib.hid (by rw [m3 i (Nat.le_refl _)]; exact hno0.out)
          have hd := Lib.hid (fun w5 (m5 : MapIs encN w5 M (l' ++ [(i, .agg #[.int .i64 (bv), .int .i64 ((bn : Int))])])) hg => hes.done hEV.out m2 m3 m5 hg)
          clear hes m2 m3
          go_wp2_with (at_mapUpdate; refine wpList_put_is rfl _ _ _ _ 3 61 rfl natKey9 Try.underlying57 rfl m1 i (.agg #[.int .i64 (bv), .int .i64 ((bn : Int))]) rfl rfl hn9.out ?_)
          intro w5 m5 hg5
          obtain ⟨d0, d1, d2, d3, d4, d5, d6, d7, hfin⟩ := hd.out w5 m5 hg5
          clear m5 hg5 hd m1
          go_wp2
          obtain ⟨z0, z1, z2⟩ := hfin.out _ rfl
          generalize (w5.setCell ⟨w.heap.size + 1, 0, none⟩ (.int .i64 (bv))).setCell ⟨w.heap.size + 1, 1, none⟩ (.int .i64 ((bn : Int))) = w9 at *
          refine bodyPost_ret (v := .agg #[.int .i64 (bv), .int .i64 ((bn : Int))]) (by simp [results, Try.results51, go_sem, z0, z1]) rfl ?_
          exact z2
end Go.Proofs.Ytcaojaaooadeaaa
