/- Justified lines: the model's function. -/
import Derived.Test.YtcaojaaooadeaaaLn9
namespace Go.Proofs.Ytcaojaaooadeaaa
open Go.RowKit Go.ChangeShapes Go.WideShapes Go.Deep
set_option linter.unusedVariables false
set_option linter.unusedSimpArgs false

set_option maxRecDepth 100000 in
set_option maxHeartbeats 3200000 in
theorem set9_spec (b off n c : Nat) (ws : List ByteArray) (W : Nat) (hW : W ≤ 900) (hn0 : 0 < n) (hn : n ≤ 1000) (hs : ∀ x ∈ ws, x.size ≤ 1000) (hfit : longN ws ≤ W) (w : World) (h : Strs w (some ⟨b, off, none⟩) n ws) :
    Calls Try.prog 52 #[.slice (some ⟨b, off, none⟩) n c, .int .i64 (W : Int)] w fun e w' => e = .returned (.string (setB W ws)) ∧ Below w.heap.size w w' := by
  have hl := Lib.hid h.1
  have hc1 := Lib.hid (fun W' hW' => long9_spec (some ⟨b, off, none⟩) n c ws hn hs rfl W' hW')
  obtain ⟨hb, hcells⟩ := strs_cells h hn0
  have hln : longN ws = sizN ws + (n - 1) := by rw [longN, hl.out]
  by_cases h1 : n = 1
  · subst h1
    obtain ⟨x, rfl⟩ : ∃ x, ws = [x] := List.length_eq_one_iff.1 hl.out
    have hres := Lib.hid (setB_one (W := W) (x := x))
    have hx1 : longN [x] = x.size := by simp [longN, sizN]
    have hxs := hs x (by simp)
    have c0 := hcells 0 x rfl
    rw [Nat.add_zero] at c0
    rw [hx1] at hc1 hfit
    obtain ⟨d, hd⟩ : ∃ d : Nat, W - x.size = d := ⟨_, rfl⟩
    rw [hd] at hres
    have hw1 : IntKind.i64.wrap ((W : Int) - (x.size : Int)) = (d : Int) := by rw [IntWalk.i64_in _ (by omega)]; omega
    have hbl := Lib.hid (fun W' => blanks9_spec d (by omega) W')
    have hbs := blanksB_size d
    have hcat : ¬ 9223372036854775807 < x.size + (blanksB d).size := by omega
    clear hcells hln hx1 hs hd hbs
    generalize blanksB d = BD at *
    go_enter Try.func52, Try.ntmps52
    go_wp2_with fail
    refine (hc1.out _ h).mono ?_
    rintro e w' ⟨rfl, rfl⟩
    clear hc1 h
    go_wp2_with fail
    refine wp_region_held_drew (S := fun w' => Below w.heap.size w w' ∧ w'.cell? ⟨b, off, none⟩ = some (.string x)) (by kernel_rfl) ?_ (fun hHeld => ?_)
    · exact ⟨(Below.refl _ _).drew, c0⟩
    refine wpAnyH_take (i := 0) (v := ?va0) rfl (by kernel_rfl) (by kernel_rfl) (by kernel_rfl) (fun _ _ _ h => h) (Or.inl ⟨rfl, ?ya0⟩) (by assumption) ?_
    case ya0 => (intro w hSw; (try dsimp only at hSw); go_simp; first | done | with_reducible rfl)
    simp only [List.getElem_toArray, List.getElem_cons_succ, List.getElem_cons_zero, Act.put, List.setIfInBounds_toArray, List.set_cons_zero, List.set_cons_succ]
    refine wpAnyH_take (i := 1) (v := ?va1) rfl (by kernel_rfl) (by kernel_rfl) (by kernel_rfl) (fun _ _ _ h => h) (Or.inl ⟨rfl, ?ya1⟩) (by assumption) ?_
    case ya1 => (intro w hSw; (try dsimp only at hSw); go_simp; first | done | with_reducible rfl)
    simp only [List.getElem_toArray, List.getElem_cons_succ, List.getElem_cons_zero, Act.put, List.setIfInBounds_toArray, List.set_cons_zero, List.set_cons_succ]
    refine wpAnyH_take (i := 2) (v := ?va2) rfl (by kernel_rfl) (by kernel_rfl) (by kernel_rfl) (fun _ _ _ h => h) (Or.inl ⟨rfl, ?ya2⟩) (by assumption) ?_
    case ya2 => (intro w hSw; (try dsimp only at hSw); go_simp; first | done | with_reducible rfl)
    simp only [List.getElem_toArray, List.getElem_cons_succ, List.getElem_cons_zero, Act.put, List.setIfInBounds_toArray, List.set_cons_zero, List.set_cons_succ]
    refine wpAnyH_take (i := 3) (v := ?va3) rfl (by kernel_rfl) (by kernel_rfl) (by kernel_rfl) (fun _ _ _ h => h) (Or.inl ⟨rfl, ?ya3⟩) (by assumption) ?_
    case ya3 => (intro w hSw; (try dsimp only at hSw); go_simp; first | done | with_reducible rfl)
    simp only [List.getElem_toArray, List.getElem_cons_succ, List.getElem_cons_zero, Act.put, List.setIfInBounds_toArray, List.set_cons_zero, List.set_cons_succ]
    refine wpAnyH_ready (rs := [4]) (by kernel_rfl) (by simp) ?_
    refine AllReadyH.cons rfl (fun K hK => ?_) AllReadyH.nil
    go_simp
    refine (hbl.out _).mono ?_
    rintro e w1 ⟨rfl, hb1⟩
    go_wp2_with fail
    refine hK.out _ _ ?_ (fun hHeld => ?_)
    · exact ⟨hHeld.1.step hb1, cell_step hHeld.2 hb1⟩
    clear hK K
    try simp only [List.getElem_toArray, List.getElem_cons_succ, List.getElem_cons_zero, Act.put, List.setIfInBounds_toArray, List.set_cons_zero, List.set_cons_succ]
    refine wpAnyH_take (i := 5) (v := ?va5) rfl (by kernel_rfl) (by kernel_rfl) (by kernel_rfl) (fun _ _ _ h => h) (Or.inl ⟨rfl, ?ya5⟩) (by assumption) ?_
    case ya5 => (intro w hSw; (try dsimp only at hSw); go_simp; first | done | with_reducible rfl)
    simp only [List.getElem_toArray, List.getElem_cons_succ, List.getElem_cons_zero, Act.put, List.setIfInBounds_toArray, List.set_cons_zero, List.set_cons_succ]
    refine wpAnyH_take (i := 6) (v := ?va6) rfl (by kernel_rfl) (by kernel_rfl) (by kernel_rfl) (fun _ _ _ h => h) (Or.inl ⟨rfl, ?ya6⟩) (by assumption) ?_
    case ya6 => (intro w hSw; (try dsimp only at hSw); go_simp; first | done | with_reducible rfl)
    simp only [List.getElem_toArray, List.getElem_cons_succ, List.getElem_cons_zero, Act.put, List.setIfInBounds_toArray, List.set_cons_zero, List.set_cons_succ]
    refine wpAnyH_done (by kernel_rfl) ?_ _
    go_wp2
    go_ret
    exact ⟨by rw [hres.out]; rfl, hHeld.1⟩
  · obtain ⟨g, hg⟩ : ∃ g, n = g + 1 := ⟨n - 1, by omega⟩
    subst hg
    have hg0 : 0 < g := by omega
    rw [Nat.add_sub_cancel] at hln
    obtain ⟨L, hL⟩ : ∃ L, W - longN ws = L := ⟨_, rfl⟩
    have hroom : W - sizN ws = L + g := by omega
    have hres : Hid (setB W ws = ⟨(partT (L + g) g ws (g + 1)).toArray⟩) := Lib.hid (by rw [setB, setL, if_neg (by rw [hl.out]; exact h1), hroom, hl.out, Nat.add_sub_cancel])
    have hL1 : L ≤ 900 := by omega
    have hg1 : g ≤ 1000 := by omega
    have hw1 : IntKind.i64.wrap ((W : Int) - (longN ws : Int)) = (L : Int) := by rw [IntWalk.i64_in _ (by omega)]; omega
    have hw2 : IntKind.i64.wrap (((g + 1 : Nat) : Int) - 1) = (g : Int) := by rw [IntWalk.i64_in _ (by omega)]; omega
    have hw2' : IntKind.i64.wrap ((g : Int) + 1 - 1) = (g : Int) := by rw [IntWalk.i64_in _ (by omega)]; omega
    have hg2 : ((g : Int) == 0) = false := beq_eq_false_iff_ne.2 (by omega)
    have hg3 : (g == 0) = false := beq_eq_false_iff_ne.2 (by omega)
    have hg4 : ¬ ((g : Int) = 0) := by omega
    have hg5 : ¬ (g = 0) := by omega
    have hqr := Lib.hid (fun i => gp9_add L g i hg0)
    have hql : L / g ≤ L := Nat.div_le_self _ _
    have hrl0 : L % g < g := Nat.mod_lt _ hg0
    have hq1' := quo9 L g
    have hq3' := rem9 L g
    obtain ⟨q, hqq⟩ : ∃ q, L / g = q := ⟨_, rfl⟩
    obtain ⟨r, hrr⟩ : ∃ r, L % g = r := ⟨_, rfl⟩
    rw [hqq] at hql hq1' hqr
    rw [hrr] at hrl0 hq3' hqr
    have hq1 : IntKind.i64.wrap ((L : Int).tdiv (g : Int)) = (q : Int) := by rw [hq1', IntWalk.i64_in _ (by omega)]
    have hq3 : IntKind.i64.wrap ((L : Int).tmod (g : Int)) = (r : Int) := by rw [hq3', IntWalk.i64_in _ (by omega)]
    have hwq : IntKind.i64.wrap (q : Int) = (q : Int) := IntWalk.i64_in _ (by omega)
    obtain ⟨Q, hQ⟩ : ∃ Q, 1 + q = Q := ⟨_, rfl⟩
    have hQ9 : Q ≤ 901 := by omega
    have hq2 : IntKind.i64.wrap (1 + (q : Int)) = (Q : Int) := by rw [IntWalk.i64_in _ (by omega)]; omega
    have hq4 : IntKind.i64.wrap ((Q : Int) + 1) = ((Q + 1 : Nat) : Int) := by rw [IntWalk.i64_in _ (by omega)]; omega
    rw [hQ] at hqr
    replace hQ := Lib.hid hQ
    have hpl := Lib.hid (fun k hk => part_len (room := L + g) (g := g) (by omega) hs k hk)
    have c0 : w.cell? ⟨b, off, none⟩ = some (.string (ws[0]'(by rw [hl.out]; omega))) := by
      have := hcells 0 _ (List.getElem?_eq_getElem (by rw [hl.out]; omega))
      simpa using this
    have hone := Lib.hid (partB_one (room := L + g) (g := g) (List.getElem?_eq_getElem (l := ws) (i := 0) (by rw [hl.out]; omega)))
    have hs0 := Lib.hid hs
    replace hL := Lib.hid hL
    replace hqq := Lib.hid hqq
    replace hrr := Lib.hid hrr
    clear hcells hln hroom hs h1
    generalize ws[0]'(by rw [hl.out]; omega) = x0 at *
    generalize longN ws = LN at *
    go_enter Try.func52, Try.ntmps52
    go_wp2_with fail
    refine (hc1.out _ h).mono ?_
    rintro e w' ⟨rfl, rfl⟩
    clear hc1
    go_wp2
    go_loopw [7, 8, 9] (fun s i _ wr => ∃ k : Nat, 1 ≤ k ∧ k ≤ g + 1 ∧ i = .int .i64 (k : Int) ∧ s = .string ⟨(partT (L + g) g ws k).toArray⟩ ∧ Below w.heap.size w wr) (fun _ i _ _ => g + 1 - (intOf i).toNat)
    case atStart => exact ⟨1, by omega, by omega, rfl, by rw [hone.out], Below.refl _ _⟩
    case round =>
      rename World => wr
      obtain ⟨k, hk1, hk, rfl, rfl, hbw⟩ := hrel
      have hwz := hbw.size
      have hP := hpl.out k (by rw [hl.out]; omega)
      have hPs : (⟨(partT (L + g) g ws k).toArray⟩ : ByteArray).size = (partT (L + g) g ws k).length := by simp [ByteArray.size]
      by_cases hlt : k ≤ g
      · obtain ⟨bb, bo, x, hA, hbb, hx, d0⟩ := str_at (h.below hbw) (show k < g + 1 by omega)
        cases hA
        have hxs := hs0.out x (List.mem_of_getElem? hx.out)
        have hnx := partB_next (room := L + g) (g := g) hx.out hk1
        have hgp := hqr.out k
        have hlt2 : (k : Int) ≤ (g : Int) := by omega
        have hk0 : (0 : Int) ≤ (k : Int) := Int.natCast_nonneg _
        have hkn : (k : Int) < ((g + 1 : Nat) : Int) := by omega
        have hkn2 : (k : Int) < (g : Int) + 1 := by omega
        rw [← hPs] at hP
        generalize (⟨(partT (L + g) g ws k).toArray⟩ : ByteArray) = PB at *
        by_cases hkr : k ≤ r
        · rw [if_pos hkr] at hgp
          have g1 : decide ((k : Int) ≤ (r : Int)) = true := decide_eq_true (by omega)
          have g2 : decide (k ≤ r) = true := decide_eq_true hkr
          rw [hgp] at hnx
          obtain ⟨G, hG⟩ : ∃ G, Q + 1 = G := ⟨_, rfl⟩
          rw [hG] at hnx hq4
          have hG2 : G ≤ 902 := by omega
          have hbl := Lib.hid (fun W' => blanks9_spec G (by omega) W')
          have hbs := blanksB_size G
          have hcat1 : ¬ 9223372036854775807 < (blanksB G).size + x.size := by omega
          have hcat2 : ¬ 9223372036854775807 < PB.size + (blanksB G ++ x).size := by rw [ByteArray.size_append]; omega
          have hcat3 : ¬ 9223372036854775807 < PB.size + ((blanksB G).size + x.size) := by omega
          replace hnx := Lib.hid hnx
          replace hG := Lib.hid hG
          clear hbs hgp hkr hP hPs
          generalize blanksB G = BD at *
          go_wp2_with fail
          refine wp_region_held_drew (S := fun w' => Below wr.heap.size wr w' ∧ w'.cell? ⟨b, off + k, none⟩ = some (.string x)) (by kernel_rfl) ?_ (fun hHeld => ?_)
          · exact ⟨(Below.refl _ _).drew, d0⟩
          refine wpAnyH_take (i := 0) (v := ?vb0) rfl (by kernel_rfl) (by kernel_rfl) (by kernel_rfl) (fun _ _ _ h => h) (Or.inl ⟨rfl, ?yb0⟩) (by assumption) ?_
          case yb0 => (intro w hSw; (try dsimp only at hSw); go_simp; first | done | with_reducible rfl)
          simp only [List.getElem_toArray, List.getElem_cons_succ, List.getElem_cons_zero, Act.put, List.setIfInBounds_toArray, List.set_cons_zero, List.set_cons_succ]
          refine wpAnyH_take (i := 1) (v := ?vb1) rfl (by kernel_rfl) (by kernel_rfl) (by kernel_rfl) (fun _ _ _ h => h) (Or.inl ⟨rfl, ?yb1⟩) (by assumption) ?_
          case yb1 => (intro w hSw; (try dsimp only at hSw); go_simp; first | done | with_reducible rfl)
          simp only [List.getElem_toArray, List.getElem_cons_succ, List.getElem_cons_zero, Act.put, List.setIfInBounds_toArray, List.set_cons_zero, List.set_cons_succ]
          refine wpAnyH_take (i := 3) (v := ?vb3) rfl (by kernel_rfl) (by kernel_rfl) (by kernel_rfl) (fun _ _ _ h => h) (Or.inl ⟨rfl, ?yb3⟩) (by assumption) ?_
          case yb3 => (intro w hSw; (try dsimp only at hSw); go_simp; first | done | with_reducible rfl)
          simp only [List.getElem_toArray, List.getElem_cons_succ, List.getElem_cons_zero, Act.put, List.setIfInBounds_toArray, List.set_cons_zero, List.set_cons_succ]
          refine wpAnyH_take (i := 4) (v := ?vb4) rfl (by kernel_rfl) (by kernel_rfl) (by kernel_rfl) (fun _ _ _ h => h) (Or.inl ⟨rfl, ?yb4⟩) (by assumption) ?_
          case yb4 => (intro w hSw; (try dsimp only at hSw); go_simp; first | done | with_reducible rfl)
          simp only [List.getElem_toArray, List.getElem_cons_succ, List.getElem_cons_zero, Act.put, List.setIfInBounds_toArray, List.set_cons_zero, List.set_cons_succ]
          refine wpAnyH_take (i := 5) (v := ?vb5) rfl (by kernel_rfl) (by kernel_rfl) (by kernel_rfl) (fun _ _ _ h => h) (Or.inl ⟨rfl, ?yb5⟩) (by assumption) ?_
          case yb5 => (intro w hSw; (try dsimp only at hSw); go_simp; first | done | with_reducible rfl)
          simp only [List.getElem_toArray, List.getElem_cons_succ, List.getElem_cons_zero, Act.put, List.setIfInBounds_toArray, List.set_cons_zero, List.set_cons_succ]
          refine wpAnyH_take (i := 6) (v := ?vb6) rfl (by kernel_rfl) (by kernel_rfl) (by kernel_rfl) (fun _ _ _ h => h) (Or.inl ⟨rfl, ?yb6⟩) (by assumption) ?_
          case yb6 => (intro w hSw; (try dsimp only at hSw); go_simp; first | done | with_reducible rfl)
          simp only [List.getElem_toArray, List.getElem_cons_succ, List.getElem_cons_zero, Act.put, List.setIfInBounds_toArray, List.set_cons_zero, List.set_cons_succ]
          refine wpAnyH_ready (rs := [2]) (by kernel_rfl) (by simp) ?_
          refine AllReadyH.cons rfl (fun K hK => ?_) AllReadyH.nil
          go_simp
          refine (hbl.out _).mono ?_
          rintro e w1 ⟨rfl, hb1⟩
          go_wp2_with fail
          refine hK.out _ _ ?_ (fun hHeld => ?_)
          · exact ⟨hHeld.1.step hb1, cell_step hHeld.2 hb1⟩
          clear hK K
          try simp only [List.getElem_toArray, List.getElem_cons_succ, List.getElem_cons_zero, Act.put, List.setIfInBounds_toArray, List.set_cons_zero, List.set_cons_succ]
          refine wpAnyH_take (i := 7) (v := ?vb7) rfl (by kernel_rfl) (by kernel_rfl) (by kernel_rfl) (fun _ _ _ h => h) (Or.inl ⟨rfl, ?yb7⟩) (by assumption) ?_
          case yb7 => (intro w hSw; (try dsimp only at hSw); go_simp; first | done | with_reducible rfl)
          simp only [List.getElem_toArray, List.getElem_cons_succ, List.getElem_cons_zero, Act.put, List.setIfInBounds_toArray, List.set_cons_zero, List.set_cons_succ]
          refine wpAnyH_take (i := 8) (v := ?vb8) rfl (by kernel_rfl) (by kernel_rfl) (by kernel_rfl) (fun _ _ _ h => h) (Or.inl ⟨rfl, ?yb8⟩) (by assumption) ?_
          case yb8 => (intro w hSw; (try dsimp only at hSw); go_simp; first | done | with_reducible rfl)
          simp only [List.getElem_toArray, List.getElem_cons_succ, List.getElem_cons_zero, Act.put, List.setIfInBounds_toArray, List.set_cons_zero, List.set_cons_succ]
          refine wpAnyH_take (i := 9) (v := ?vb9) rfl (by kernel_rfl) (by kernel_rfl) (by kernel_rfl) (fun _ _ _ h => h) (Or.inl ⟨rfl, ?yb9⟩) (by assumption) ?_
          case yb9 => (intro w hSw; (try dsimp only at hSw); go_simp; first | done | with_reducible rfl)
          simp only [List.getElem_toArray, List.getElem_cons_succ, List.getElem_cons_zero, Act.put, List.setIfInBounds_toArray, List.set_cons_zero, List.set_cons_succ]
          refine wpAnyH_done (by kernel_rfl) ?_ _
          have hbe := hbw.trans (hHeld.1.mono hwz)
          go_wp2
          go_roundw
          case rel => exact ⟨k + 1, by omega, by omega, by go_num, by rw [hnx.out], hbe⟩
          case measure => simp [intOf]; omega
        · rw [if_neg hkr, Nat.add_zero] at hgp
          have g1 : decide ((k : Int) ≤ (r : Int)) = false := decide_eq_false (by omega)
          have g2 : decide (k ≤ r) = false := decide_eq_false hkr
          rw [hgp] at hnx
          obtain ⟨G, hG⟩ : ∃ G, Q = G := ⟨_, rfl⟩
          subst hG
          have hG2 : Q ≤ 902 := by omega
          have hbl := Lib.hid (fun W' => blanks9_spec Q (by omega) W')
          have hbs := blanksB_size Q
          have hcat1 : ¬ 9223372036854775807 < (blanksB Q).size + x.size := by omega
          have hcat2 : ¬ 9223372036854775807 < PB.size + (blanksB Q ++ x).size := by rw [ByteArray.size_append]; omega
          have hcat3 : ¬ 9223372036854775807 < PB.size + ((blanksB Q).size + x.size) := by omega
          replace hnx := Lib.hid hnx
          clear hbs hgp hkr hP hPs
          generalize blanksB Q = BD at *
          go_wp2_with fail
          refine wp_region_held_drew (S := fun w' => Below wr.heap.size wr w' ∧ w'.cell? ⟨b, off + k, none⟩ = some (.string x)) (by kernel_rfl) ?_ (fun hHeld => ?_)
          · exact ⟨(Below.refl _ _).drew, d0⟩
          refine wpAnyH_take (i := 0) (v := ?vc0) rfl (by kernel_rfl) (by kernel_rfl) (by kernel_rfl) (fun _ _ _ h => h) (Or.inl ⟨rfl, ?yc0⟩) (by assumption) ?_
          case yc0 => (intro w hSw; (try dsimp only at hSw); go_simp; first | done | with_reducible rfl)
          simp only [List.getElem_toArray, List.getElem_cons_succ, List.getElem_cons_zero, Act.put, List.setIfInBounds_toArray, List.set_cons_zero, List.set_cons_succ]
          refine wpAnyH_take (i := 1) (v := ?vc1) rfl (by kernel_rfl) (by kernel_rfl) (by kernel_rfl) (fun _ _ _ h => h) (Or.inl ⟨rfl, ?yc1⟩) (by assumption) ?_
          case yc1 => (intro w hSw; (try dsimp only at hSw); go_simp; first | done | with_reducible rfl)
          simp only [List.getElem_toArray, List.getElem_cons_succ, List.getElem_cons_zero, Act.put, List.setIfInBounds_toArray, List.set_cons_zero, List.set_cons_succ]
          refine wpAnyH_take (i := 3) (v := ?vc3) rfl (by kernel_rfl) (by kernel_rfl) (by kernel_rfl) (fun _ _ _ h => h) (Or.inl ⟨rfl, ?yc3⟩) (by assumption) ?_
          case yc3 => (intro w hSw; (try dsimp only at hSw); go_simp; first | done | with_reducible rfl)
          simp only [List.getElem_toArray, List.getElem_cons_succ, List.getElem_cons_zero, Act.put, List.setIfInBounds_toArray, List.set_cons_zero, List.set_cons_succ]
          refine wpAnyH_take (i := 4) (v := ?vc4) rfl (by kernel_rfl) (by kernel_rfl) (by kernel_rfl) (fun _ _ _ h => h) (Or.inl ⟨rfl, ?yc4⟩) (by assumption) ?_
          case yc4 => (intro w hSw; (try dsimp only at hSw); go_simp; first | done | with_reducible rfl)
          simp only [List.getElem_toArray, List.getElem_cons_succ, List.getElem_cons_zero, Act.put, List.setIfInBounds_toArray, List.set_cons_zero, List.set_cons_succ]
          refine wpAnyH_take (i := 5) (v := ?vc5) rfl (by kernel_rfl) (by kernel_rfl) (by kernel_rfl) (fun _ _ _ h => h) (Or.inl ⟨rfl, ?yc5⟩) (by assumption) ?_
          case yc5 => (intro w hSw; (try dsimp only at hSw); go_simp; first | done | with_reducible rfl)
          simp only [List.getElem_toArray, List.getElem_cons_succ, List.getElem_cons_zero, Act.put, List.setIfInBounds_toArray, List.set_cons_zero, List.set_cons_succ]
          refine wpAnyH_take (i := 6) (v := ?vc6) rfl (by kernel_rfl) (by kernel_rfl) (by kernel_rfl) (fun _ _ _ h => h) (Or.inl ⟨rfl, ?yc6⟩) (by assumption) ?_
          case yc6 => (intro w hSw; (try dsimp only at hSw); go_simp; first | done | with_reducible rfl)
          simp only [List.getElem_toArray, List.getElem_cons_succ, List.getElem_cons_zero, Act.put, List.setIfInBounds_toArray, List.set_cons_zero, List.set_cons_succ]
          refine wpAnyH_ready (rs := [2]) (by kernel_rfl) (by simp) ?_
          refine AllReadyH.cons rfl (fun K hK => ?_) AllReadyH.nil
          go_simp
          refine (hbl.out _).mono ?_
          rintro e w1 ⟨rfl, hb1⟩
          go_wp2_with fail
          refine hK.out _ _ ?_ (fun hHeld => ?_)
          · exact ⟨hHeld.1.step hb1, cell_step hHeld.2 hb1⟩
          clear hK K
          try simp only [List.getElem_toArray, List.getElem_cons_succ, List.getElem_cons_zero, Act.put, List.setIfInBounds_toArray, List.set_cons_zero, List.set_cons_succ]
          refine wpAnyH_take (i := 7) (v := ?vc7) rfl (by kernel_rfl) (by kernel_rfl) (by kernel_rfl) (fun _ _ _ h => h) (Or.inl ⟨rfl, ?yc7⟩) (by assumption) ?_
          case yc7 => (intro w hSw; (try dsimp only at hSw); go_simp; first | done | with_reducible rfl)
          simp only [List.getElem_toArray, List.getElem_cons_succ, List.getElem_cons_zero, Act.put, List.setIfInBounds_toArray, List.set_cons_zero, List.set_cons_succ]
          refine wpAnyH_take (i := 8) (v := ?vc8) rfl (by kernel_rfl) (by kernel_rfl) (by kernel_rfl) (fun _ _ _ h => h) (Or.inl ⟨rfl, ?yc8⟩) (by assumption) ?_
          case yc8 => (intro w hSw; (try dsimp only at hSw); go_simp; first | done | with_reducible rfl)
          simp only [List.getElem_toArray, List.getElem_cons_succ, List.getElem_cons_zero, Act.put, List.setIfInBounds_toArray, List.set_cons_zero, List.set_cons_succ]
          refine wpAnyH_take (i := 9) (v := ?vc9) rfl (by kernel_rfl) (by kernel_rfl) (by kernel_rfl) (fun _ _ _ h => h) (Or.inl ⟨rfl, ?yc9⟩) (by assumption) ?_
          case yc9 => (intro w hSw; (try dsimp only at hSw); go_simp; first | done | with_reducible rfl)
          simp only [List.getElem_toArray, List.getElem_cons_succ, List.getElem_cons_zero, Act.put, List.setIfInBounds_toArray, List.set_cons_zero, List.set_cons_succ]
          refine wpAnyH_done (by kernel_rfl) ?_ _
          have hbe := hbw.trans (hHeld.1.mono hwz)
          go_wp2
          go_roundw
          case rel => exact ⟨k + 1, by omega, by omega, by go_num, by rw [hnx.out], hbe⟩
          case measure => simp [intOf]; omega
      · obtain rfl : k = g + 1 := by omega
        have hlt2 : ¬ ((g : Int) + 1 ≤ (g : Int)) := by omega
        have hlt3 : ¬ (((g + 1 : Nat) : Int) ≤ (g : Int)) := by omega
        go_wp2
        go_ret
        exact ⟨by rw [hres.out]; rfl, hbw⟩
end Go.Proofs.Ytcaojaaooadeaaa
