/- TicksFor: the model's function and the program's. -/
import Derived.Test.YtfhlpojaldidpaaFast2
namespace Go.Proofs.Ytfhlpojaldidpaa
open Go.RowKit
set_option linter.unusedVariables false
set_option linter.unusedSimpArgs false

set_option maxRecDepth 100000 in
set_option maxHeartbeats 3200000 in
theorem ticks_spec (b : BasketD) (A : Option Addr) (n c : Nat) (xs : List Int) (w : World) (hg : b.good) (h : Ints w A n xs) (hn : n ≤ 1048576) (hx : ∀ x ∈ xs, intGood x) :
    Calls Try.prog 82 #[.agg #[.int .i64 b.bars, .int .i64 b.rise, .int .i64 b.fall, .int .i64 b.clear, .int .i64 b.near], .slice A n c] w fun e w' => e = .returned (.tuple #[.int .i64 (ticksFor b xs).1, .int .i64 (ticksFor b xs).2]) ∧ Below w.heap.size w w' := by
  have hcd := fun W (hW : Ints W A n xs) => code_spec b A n c xs W hW hn
  by_cases h0 : codeOf b xs = 0
  · obtain ⟨hok, h60, hbars⟩ := codeOf_ok h0
    have hfl : Hid (ticksFor b xs = if n = 0 then (0, 0) else (atAt b xs n + b.rise + b.fall, 0)) := Lib.hid (by rw [ticksFor, if_pos h0, h.1])
    rw [h0] at hcd
    replace hcd := Lib.hid hcd
    have hl0 := h.1
    have hn60 : n ≤ 60 := by omega
    have hnew := fun W t => BoxB.new W b t
    replace hnew := Lib.hid hnew
    have hfw := fun W (hW : Ints W A n xs) => fast_walk b A n c xs W hok h60 hbars hW
    replace hfw := Lib.hid hfw
    obtain ⟨_, ha1, ha2⟩ := fastAt_ok hok hbars n (by omega)
    have hbo := basketOk_iff.1 hok
    clear h0
    generalize ticksFor b xs = r at *
    by_cases hn0 : n = 0
    · subst hn0
      have hres : Hid (r = (0, 0)) := Lib.hid (by rw [hfl.out, if_pos rfl])
      go_enter Try.func82, Try.ntmps82
      go_wp2_with fail
      refine (hcd.out _ (h.below (below_a1 _ _))).mono ?_
      rintro e w1 ⟨rfl, hb1⟩
      obtain ⟨d0, d1, d2, d3, d4⟩ := (hnew.out w _).step hb1
      have hb0 := Lib.hid ((below_a1 _ _).step hb1)
      clear hb1
      go_wp2_with fail
      refine (hfw.out _ (h.below hb0.out)).mono ?_
      rintro e w2 ⟨v, rfl, hown, hb2⟩
      obtain ⟨A', c', rfl, hO⟩ := owns_read (fastAt_length b xs 0) hown
      clear hO hown
      go_wp2
      go_ret2
      exact ⟨ret_two hres.out, hb0.out.step hb2⟩
    · have hres : Hid (r = (atAt b xs n + b.rise + b.fall, 0)) := Lib.hid (by rw [hfl.out, if_neg hn0])
      have hn1 : (1 : Int) ≤ (n : Int) := by omega
      have hne : ((n : Int) == 0) = false := beq_eq_false_iff_ne.2 (by omega)
      obtain ⟨_, ⟨p1, p2⟩, ⟨p3, p4⟩, _⟩ := hbo
      have hlast : Hid ((fastAt b xs n)[n - 1]? = some ⟨xs.getD (n - 1) 0, atAt b xs n⟩) := Lib.hid (by
        obtain ⟨p, rfl⟩ : ∃ p, n = p + 1 := ⟨n - 1, by omega⟩
        exact fastAt_last b xs p)
      go_enter Try.func82, Try.ntmps82
      go_wp2_with fail
      refine (hcd.out _ (h.below (below_a1 _ _))).mono ?_
      rintro e w1 ⟨rfl, hb1⟩
      have hbx := Lib.hid ((hnew.out w _).step hb1)
      obtain ⟨d0, d1, d2, d3, d4⟩ := hbx.out
      have hb0 := Lib.hid ((below_a1 _ _).step hb1)
      clear hb1
      go_wp2_with fail
      refine (hfw.out _ (h.below hb0.out)).mono ?_
      rintro e w2 ⟨v, rfl, hown, hb2⟩
      obtain ⟨A', c', rfl, hO⟩ := owns_read (fastAt_length b xs n) hown
      obtain ⟨gb, go', s, rfl, hgb, hs, c0, c1⟩ := stroke_at hO.srow (show n - 1 < n by omega)
      have hs2 := hs.out
      rw [hlast.out] at hs2
      cases hs2
      clear hs hO hown d0 d1 d2 d3 d4
      obtain ⟨d0, d1, d2, d3, d4⟩ := hbx.out.step hb2
      have hbb := Lib.hid (hb0.out.step hb2)
      simp only at c0 c1
      generalize atAt b xs n = t0 at *
      generalize hN : w.heap.size = N at *
      replace hN := Lib.hid hN
      clear hb2 hb0 hcd hfw hnew
      have s1 : IntKind.i64.wrap ((n : Int) - 1) = (n : Int) - 1 := IntWalk.i64_in _ (by omega)
      have s2 : IntKind.i64.wrap (t0 + b.rise) = t0 + b.rise := IntWalk.i64_in _ (by omega)
      have s3 : IntKind.i64.wrap (t0 + b.rise + b.fall) = t0 + b.rise + b.fall := IntWalk.i64_in _ (by omega)
      have q1 : ((n : Int) - 1).toNat = n - 1 := by omega
      have k1 : (0 : Int) ≤ (n : Int) - 1 := by omega
      have k2 : (n : Int) - 1 < (n : Int) := by omega
      go_wp2_with fail
      refine wp_region_held_drew (S := fun w' => Below w2.heap.size w2 w' ∧ w'.cell? ⟨N, 0, none⟩ = some (.int .i64 b.bars) ∧ w'.cell? ⟨N, 1, none⟩ = some (.int .i64 b.rise) ∧ w'.cell? ⟨N, 2, none⟩ = some (.int .i64 b.fall) ∧ w'.cell? ⟨N, 3, none⟩ = some (.int .i64 b.clear) ∧ w'.cell? ⟨N, 4, none⟩ = some (.int .i64 b.near) ∧ w'.cell? ⟨gb, go' + (n - 1) * 2 + 1, none⟩ = some (.int .i64 t0)) (by kernel_rfl) ?_ (fun hHeld => ?_)
      · exact ⟨(Below.refl _ _).drew, d0, d1, d2, d3, d4, c1⟩
      refine wpAnyH_take (i := 0) (v := ?va0) rfl (by kernel_rfl) (by kernel_rfl) (by kernel_rfl) (fun _ _ _ h => h) (Or.inl ⟨rfl, ?ya0⟩) (by assumption) ?_
      case ya0 => (intro w hSw; (try dsimp only at hSw); go_simp; first | done | with_reducible rfl)
      simp only [List.getElem_toArray, List.getElem_cons_succ, List.getElem_cons_zero, Act.put, List.setIfInBounds_toArray, List.set_cons_zero, List.set_cons_succ]
      refine wpAnyH_take (i := 1) (v := ?va1) rfl (by kernel_rfl) (by kernel_rfl) (by kernel_rfl) (fun _ _ _ h => h) (Or.inl ⟨rfl, ?ya1⟩) (by assumption) ?_
      case ya1 => (intro w hSw; (try dsimp only at hSw); go_simp; first | done | with_reducible rfl)
      simp only [List.getElem_toArray, List.getElem_cons_succ, List.getElem_cons_zero, Act.put, List.setIfInBounds_toArray, List.set_cons_zero, List.set_cons_succ]
      refine wpAnyH_take (i := 2) (v := ?va2) rfl (by kernel_rfl) (by kernel_rfl) (by kernel_rfl) (fun _ _ _ h => h) (Or.inl ⟨rfl, ?ya2⟩) (by assumption) ?_
      case ya2 => (intro w hSw; (try dsimp only at hSw); go_simp; first | done | with_reducible rfl)
      simp only [List.getElem_toArray, List.getElem_cons_succ, List.getElem_cons_zero, Act.put, List.setIfInBounds_toArray, List.set_cons_zero, List.set_cons_succ]
      refine wpAnyH_take (i := 3) (v := ?va3) rfl (by kernel_rfl) (by kernel_rfl) (by kernel_rfl) (fun _ _ _ h => h) (Or.inl ⟨rfl, ?ya3⟩) (by assumption) ?_
      case ya3 => (intro w hSw; (try dsimp only at hSw); go_simp; first | done | with_reducible rfl)
      simp only [List.getElem_toArray, List.getElem_cons_succ, List.getElem_cons_zero, Act.put, List.setIfInBounds_toArray, List.set_cons_zero, List.set_cons_succ]
      refine wpAnyH_take (i := 4) (v := ?va4) rfl (by kernel_rfl) (by kernel_rfl) (by kernel_rfl) (fun _ _ _ h => h) (Or.inl ⟨rfl, ?ya4⟩) (by assumption) ?_
      case ya4 => (intro w hSw; (try dsimp only at hSw); go_simp; first | done | with_reducible rfl)
      simp only [List.getElem_toArray, List.getElem_cons_succ, List.getElem_cons_zero, Act.put, List.setIfInBounds_toArray, List.set_cons_zero, List.set_cons_succ]
      refine wpAnyH_take (i := 5) (v := ?va5) rfl (by kernel_rfl) (by kernel_rfl) (by kernel_rfl) (fun _ _ _ h => h) (Or.inl ⟨rfl, ?ya5⟩) (by assumption) ?_
      case ya5 => (intro w hSw; (try dsimp only at hSw); go_simp; first | done | with_reducible rfl)
      simp only [List.getElem_toArray, List.getElem_cons_succ, List.getElem_cons_zero, Act.put, List.setIfInBounds_toArray, List.set_cons_zero, List.set_cons_succ]
      refine wpAnyH_take (i := 6) (v := ?va6) rfl (by kernel_rfl) (by kernel_rfl) (by kernel_rfl) (fun _ _ _ h => h) (Or.inl ⟨rfl, ?ya6⟩) (by assumption) ?_
      case ya6 => (intro w hSw; (try dsimp only at hSw); go_simp; first | done | with_reducible rfl)
      simp only [List.getElem_toArray, List.getElem_cons_succ, List.getElem_cons_zero, Act.put, List.setIfInBounds_toArray, List.set_cons_zero, List.set_cons_succ]
      refine wpAnyH_take (i := 7) (v := ?va7) rfl (by kernel_rfl) (by kernel_rfl) (by kernel_rfl) (fun _ _ _ h => h) (Or.inl ⟨rfl, ?ya7⟩) (by assumption) ?_
      case ya7 => (intro w hSw; (try dsimp only at hSw); go_simp; first | done | with_reducible rfl)
      simp only [List.getElem_toArray, List.getElem_cons_succ, List.getElem_cons_zero, Act.put, List.setIfInBounds_toArray, List.set_cons_zero, List.set_cons_succ]
      refine wpAnyH_take (i := 8) (v := ?va8) rfl (by kernel_rfl) (by kernel_rfl) (by kernel_rfl) (fun _ _ _ h => h) (Or.inl ⟨rfl, ?ya8⟩) (by assumption) ?_
      case ya8 => (intro w hSw; (try dsimp only at hSw); go_simp; first | done | with_reducible rfl)
      simp only [List.getElem_toArray, List.getElem_cons_succ, List.getElem_cons_zero, Act.put, List.setIfInBounds_toArray, List.set_cons_zero, List.set_cons_succ]
      refine wpAnyH_take (i := 9) (v := ?va9) rfl (by kernel_rfl) (by kernel_rfl) (by kernel_rfl) (fun _ _ _ h => h) (Or.inl ⟨rfl, ?ya9⟩) (by assumption) ?_
      case ya9 => (intro w hSw; (try dsimp only at hSw); go_simp; first | done | with_reducible rfl)
      simp only [List.getElem_toArray, List.getElem_cons_succ, List.getElem_cons_zero, Act.put, List.setIfInBounds_toArray, List.set_cons_zero, List.set_cons_succ]
      refine wpAnyH_take (i := 10) (v := ?va10) rfl (by kernel_rfl) (by kernel_rfl) (by kernel_rfl) (fun _ _ _ h => h) (Or.inl ⟨rfl, ?ya10⟩) (by assumption) ?_
      case ya10 => (intro w hSw; (try dsimp only at hSw); go_simp; first | done | with_reducible rfl)
      simp only [List.getElem_toArray, List.getElem_cons_succ, List.getElem_cons_zero, Act.put, List.setIfInBounds_toArray, List.set_cons_zero, List.set_cons_succ]
      refine wpAnyH_take (i := 11) (v := ?va11) rfl (by kernel_rfl) (by kernel_rfl) (by kernel_rfl) (fun _ _ _ h => h) (Or.inl ⟨rfl, ?ya11⟩) (by assumption) ?_
      case ya11 => (intro w hSw; (try dsimp only at hSw); go_simp; first | done | with_reducible rfl)
      simp only [List.getElem_toArray, List.getElem_cons_succ, List.getElem_cons_zero, Act.put, List.setIfInBounds_toArray, List.set_cons_zero, List.set_cons_succ]
      refine wpAnyH_take (i := 12) (v := ?va12) rfl (by kernel_rfl) (by kernel_rfl) (by kernel_rfl) (fun _ _ _ h => h) (Or.inl ⟨rfl, ?ya12⟩) (by assumption) ?_
      case ya12 => (intro w hSw; (try dsimp only at hSw); go_simp; first | done | with_reducible rfl)
      simp only [List.getElem_toArray, List.getElem_cons_succ, List.getElem_cons_zero, Act.put, List.setIfInBounds_toArray, List.set_cons_zero, List.set_cons_succ]
      refine wpAnyH_take (i := 13) (v := ?va13) rfl (by kernel_rfl) (by kernel_rfl) (by kernel_rfl) (fun _ _ _ h => h) (Or.inl ⟨rfl, ?ya13⟩) (by assumption) ?_
      case ya13 => (intro w hSw; (try dsimp only at hSw); go_simp; first | done | with_reducible rfl)
      simp only [List.getElem_toArray, List.getElem_cons_succ, List.getElem_cons_zero, Act.put, List.setIfInBounds_toArray, List.set_cons_zero, List.set_cons_succ]
      refine wpAnyH_take (i := 14) (v := ?va14) rfl (by kernel_rfl) (by kernel_rfl) (by kernel_rfl) (fun _ _ _ h => h) (Or.inl ⟨rfl, ?ya14⟩) (by assumption) ?_
      case ya14 => (intro w hSw; (try dsimp only at hSw); go_simp; first | done | with_reducible rfl)
      simp only [List.getElem_toArray, List.getElem_cons_succ, List.getElem_cons_zero, Act.put, List.setIfInBounds_toArray, List.set_cons_zero, List.set_cons_succ]
      refine wpAnyH_done (by kernel_rfl) ?_ _
      clear s1 s2 s3 q1
      go_wp2
      go_ret2
      obtain rfl := hN.out
      exact ⟨ret_two hres.out, hbb.out.step hHeld.1⟩
  · have hres : Hid (ticksFor b xs = (0, codeOf b xs)) := Lib.hid (by rw [ticksFor, if_neg h0])
    have hcs := codeOf_cases b xs
    generalize codeOf b xs = q at *
    generalize ticksFor b xs = r at *
    replace hcd := Lib.hid hcd
    have hq0 : (q == 0) = false := by simpa using h0
    clear h0
    rcases hcs with rfl | rfl | rfl
    · simp at hq0
    · clear hq0
      go_enter Try.func82, Try.ntmps82
      go_wp2_with fail
      refine (hcd.out _ (h.below (below_a1 _ _))).mono ?_
      rintro e w1 ⟨rfl, hb1⟩
      go_wp2
      go_ret2
      exact ⟨ret_two hres.out, (below_a1 _ _).step hb1⟩
    · clear hq0
      go_enter Try.func82, Try.ntmps82
      go_wp2_with fail
      refine (hcd.out _ (h.below (below_a1 _ _))).mono ?_
      rintro e w1 ⟨rfl, hb1⟩
      go_wp2
      go_ret2
      exact ⟨ret_two hres.out, (below_a1 _ _).step hb1⟩

set_option maxRecDepth 100000 in
set_option maxHeartbeats 3200000 in
theorem ticks_impl (b : BasketD) (A : Option Addr) (n c : Nat) (xs : List Int) (w : World) (hg : b.good) (h : Ints w A n xs) (hn : n ≤ 1048576) (hx : ∀ x ∈ xs, intGood x) :
    Calls Try.prog 83 #[.agg #[.int .i64 b.bars, .int .i64 b.rise, .int .i64 b.fall, .int .i64 b.clear, .int .i64 b.near], .slice A n c] w fun e w' => e = .returned (.tuple #[.int .i64 (ticksFor b xs).1, .int .i64 (ticksFor b xs).2]) ∧ Below w.heap.size w w' := by
  have hcd := fun W (hW : Ints W A n xs) => fast_impl b A n c xs W hg hW hn hx
  by_cases h0 : codeOf b xs = 0
  · obtain ⟨hok, h60, hbars⟩ := codeOf_ok h0
    have hfl : Hid (ticksFor b xs = if n = 0 then (0, 0) else (atAt b xs n + b.rise + b.fall, 0)) := Lib.hid (by rw [ticksFor, if_pos h0, h.1])
    have hfs : fastL b xs = fastAt b xs n := by rw [fastL, if_pos h0, h.1]
    rw [h0, hfs] at hcd
    replace hcd := Lib.hid hcd
    have hl0 := h.1
    have hn60 : n ≤ 60 := by omega
    have hnew := fun W t => BoxB.new W b t
    replace hnew := Lib.hid hnew
    have hfi := fun W => flight_impl b hok W
    replace hfi := Lib.hid hfi
    obtain ⟨_, ha1, ha2⟩ := fastAt_ok hok hbars n (by omega)
    have hbo := basketOk_iff.1 hok
    clear h0 hfs
    generalize ticksFor b xs = r at *
    by_cases hn0 : n = 0
    · subst hn0
      have hres : Hid (r = (0, 0)) := Lib.hid (by rw [hfl.out, if_pos rfl])
      go_enter Try.func83, Try.ntmps83
      go_wp2_with fail
      refine (hcd.out _ (h.below (below_a1 _ _))).mono ?_
      rintro e w1 ⟨A', n', c', rfl, hn', hO, hb1⟩
      obtain rfl : n' = 0 := by rw [← hO.1, fastAt_length]
      clear hO
      go_wp2
      go_ret2
      exact ⟨ret_two hres.out, (below_a1 _ _).step hb1⟩
    · have hres : Hid (r = (atAt b xs n + b.rise + b.fall, 0)) := Lib.hid (by rw [hfl.out, if_neg hn0])
      have hn1 : (1 : Int) ≤ (n : Int) := by omega
      have hne : ((n : Int) == 0) = false := beq_eq_false_iff_ne.2 (by omega)
      obtain ⟨_, ⟨p1, p2⟩, ⟨p3, p4⟩, _⟩ := hbo
      have hlast : Hid ((fastAt b xs n)[n - 1]? = some ⟨xs.getD (n - 1) 0, atAt b xs n⟩) := Lib.hid (by
        obtain ⟨p, rfl⟩ : ∃ p, n = p + 1 := ⟨n - 1, by omega⟩
        exact fastAt_last b xs p)
      go_enter Try.func83, Try.ntmps83
      go_wp2_with fail
      refine (hcd.out _ (h.below (below_a1 _ _))).mono ?_
      rintro e w1 ⟨A', n', c', rfl, hn', hO, hb1⟩
      obtain rfl : n' = n := by rw [← hO.1, fastAt_length]
      obtain ⟨gb, go', s, rfl, hgb, hs, c0, c1⟩ := stroke_at hO.srow (show n' - 1 < n' by omega)
      have hs2 := hs.out
      rw [hlast.out] at hs2
      cases hs2
      clear hs hO
      obtain ⟨d0, d1, d2, d3, d4⟩ := (hnew.out w _).step hb1
      have hbb := Lib.hid ((below_a1 _ _).step hb1)
      simp only at c0 c1
      generalize atAt b xs n' = t0 at *
      generalize hN : w.heap.size = N at *
      replace hN := Lib.hid hN
      clear hb1 hcd hnew
      have s1 : IntKind.i64.wrap ((n' : Int) - 1) = (n' : Int) - 1 := IntWalk.i64_in _ (by omega)
      have s2 : IntKind.i64.wrap (t0 + (b.rise + b.fall)) = t0 + (b.rise + b.fall) := IntWalk.i64_in _ (by omega)
      have hsum : Hid (t0 + (b.rise + b.fall) = t0 + b.rise + b.fall) := Lib.hid (by omega)
      have q1 : ((n' : Int) - 1).toNat = n' - 1 := by omega
      have k1 : (0 : Int) ≤ (n' : Int) - 1 := by omega
      have k2 : (n' : Int) - 1 < (n' : Int) := by omega
      go_wp2_with fail
      refine wp_region_held_drew (S := fun w' => Below w1.heap.size w1 w' ∧ w'.cell? ⟨N, 0, none⟩ = some (.int .i64 b.bars) ∧ w'.cell? ⟨N, 1, none⟩ = some (.int .i64 b.rise) ∧ w'.cell? ⟨N, 2, none⟩ = some (.int .i64 b.fall) ∧ w'.cell? ⟨N, 3, none⟩ = some (.int .i64 b.clear) ∧ w'.cell? ⟨N, 4, none⟩ = some (.int .i64 b.near) ∧ w'.cell? ⟨gb, go' + (n' - 1) * 2 + 1, none⟩ = some (.int .i64 t0)) (by kernel_rfl) ?_ (fun hHeld => ?_)
      · exact ⟨(Below.refl _ _).drew, d0, d1, d2, d3, d4, c1⟩
      refine wpAnyH_take (i := 0) (v := ?vb0) rfl (by kernel_rfl) (by kernel_rfl) (by kernel_rfl) (fun _ _ _ h => h) (Or.inl ⟨rfl, ?yb0⟩) (by assumption) ?_
      case yb0 => (intro w hSw; (try dsimp only at hSw); go_simp; first | done | with_reducible rfl)
      simp only [List.getElem_toArray, List.getElem_cons_succ, List.getElem_cons_zero, Act.put, List.setIfInBounds_toArray, List.set_cons_zero, List.set_cons_succ]
      refine wpAnyH_take (i := 1) (v := ?vb1) rfl (by kernel_rfl) (by kernel_rfl) (by kernel_rfl) (fun _ _ _ h => h) (Or.inl ⟨rfl, ?yb1⟩) (by assumption) ?_
      case yb1 => (intro w hSw; (try dsimp only at hSw); go_simp; first | done | with_reducible rfl)
      simp only [List.getElem_toArray, List.getElem_cons_succ, List.getElem_cons_zero, Act.put, List.setIfInBounds_toArray, List.set_cons_zero, List.set_cons_succ]
      refine wpAnyH_take (i := 2) (v := ?vb2) rfl (by kernel_rfl) (by kernel_rfl) (by kernel_rfl) (fun _ _ _ h => h) (Or.inl ⟨rfl, ?yb2⟩) (by assumption) ?_
      case yb2 => (intro w hSw; (try dsimp only at hSw); go_simp; first | done | with_reducible rfl)
      simp only [List.getElem_toArray, List.getElem_cons_succ, List.getElem_cons_zero, Act.put, List.setIfInBounds_toArray, List.set_cons_zero, List.set_cons_succ]
      refine wpAnyH_take (i := 3) (v := ?vb3) rfl (by kernel_rfl) (by kernel_rfl) (by kernel_rfl) (fun _ _ _ h => h) (Or.inl ⟨rfl, ?yb3⟩) (by assumption) ?_
      case yb3 => (intro w hSw; (try dsimp only at hSw); go_simp; first | done | with_reducible rfl)
      simp only [List.getElem_toArray, List.getElem_cons_succ, List.getElem_cons_zero, Act.put, List.setIfInBounds_toArray, List.set_cons_zero, List.set_cons_succ]
      refine wpAnyH_take (i := 4) (v := ?vb4) rfl (by kernel_rfl) (by kernel_rfl) (by kernel_rfl) (fun _ _ _ h => h) (Or.inl ⟨rfl, ?yb4⟩) (by assumption) ?_
      case yb4 => (intro w hSw; (try dsimp only at hSw); go_simp; first | done | with_reducible rfl)
      simp only [List.getElem_toArray, List.getElem_cons_succ, List.getElem_cons_zero, Act.put, List.setIfInBounds_toArray, List.set_cons_zero, List.set_cons_succ]
      refine wpAnyH_take (i := 5) (v := ?vb5) rfl (by kernel_rfl) (by kernel_rfl) (by kernel_rfl) (fun _ _ _ h => h) (Or.inl ⟨rfl, ?yb5⟩) (by assumption) ?_
      case yb5 => (intro w hSw; (try dsimp only at hSw); go_simp; first | done | with_reducible rfl)
      simp only [List.getElem_toArray, List.getElem_cons_succ, List.getElem_cons_zero, Act.put, List.setIfInBounds_toArray, List.set_cons_zero, List.set_cons_succ]
      refine wpAnyH_take (i := 6) (v := ?vb6) rfl (by kernel_rfl) (by kernel_rfl) (by kernel_rfl) (fun _ _ _ h => h) (Or.inl ⟨rfl, ?yb6⟩) (by assumption) ?_
      case yb6 => (intro w hSw; (try dsimp only at hSw); go_simp; first | done | with_reducible rfl)
      simp only [List.getElem_toArray, List.getElem_cons_succ, List.getElem_cons_zero, Act.put, List.setIfInBounds_toArray, List.set_cons_zero, List.set_cons_succ]
      refine wpAnyH_take (i := 7) (v := ?vb7) rfl (by kernel_rfl) (by kernel_rfl) (by kernel_rfl) (fun _ _ _ h => h) (Or.inl ⟨rfl, ?yb7⟩) (by assumption) ?_
      case yb7 => (intro w hSw; (try dsimp only at hSw); go_simp; first | done | with_reducible rfl)
      simp only [List.getElem_toArray, List.getElem_cons_succ, List.getElem_cons_zero, Act.put, List.setIfInBounds_toArray, List.set_cons_zero, List.set_cons_succ]
      refine wpAnyH_ready (rs := [8]) (by kernel_rfl) (by simp) ?_
      refine AllReadyH.cons rfl (fun K hK => ?_) AllReadyH.nil
      go_simp
      refine (hfi.out _).mono ?_
      rintro e w1 ⟨rfl, hb1⟩
      go_wp2_with fail
      refine hK.out _ _ ?_ (fun hHeld => ?_)
      · exact kept6 (by assumption) hb1
      clear hK K hb1
      try simp only [List.getElem_toArray, List.getElem_cons_succ, List.getElem_cons_zero, Act.put, List.setIfInBounds_toArray, List.set_cons_zero, List.set_cons_succ]
      refine wpAnyH_take (i := 9) (v := ?vb9) rfl (by kernel_rfl) (by kernel_rfl) (by kernel_rfl) (fun _ _ _ h => h) (Or.inl ⟨rfl, ?yb9⟩) (by assumption) ?_
      case yb9 => (intro w hSw; (try dsimp only at hSw); go_simp; first | done | with_reducible rfl)
      simp only [List.getElem_toArray, List.getElem_cons_succ, List.getElem_cons_zero, Act.put, List.setIfInBounds_toArray, List.set_cons_zero, List.set_cons_succ]
      refine wpAnyH_take (i := 10) (v := ?vb10) rfl (by kernel_rfl) (by kernel_rfl) (by kernel_rfl) (fun _ _ _ h => h) (Or.inl ⟨rfl, ?yb10⟩) (by assumption) ?_
      case yb10 => (intro w hSw; (try dsimp only at hSw); go_simp; first | done | with_reducible rfl)
      simp only [List.getElem_toArray, List.getElem_cons_succ, List.getElem_cons_zero, Act.put, List.setIfInBounds_toArray, List.set_cons_zero, List.set_cons_succ]
      refine wpAnyH_take (i := 11) (v := ?vb11) rfl (by kernel_rfl) (by kernel_rfl) (by kernel_rfl) (fun _ _ _ h => h) (Or.inl ⟨rfl, ?yb11⟩) (by assumption) ?_
      case yb11 => (intro w hSw; (try dsimp only at hSw); go_simp; first | done | with_reducible rfl)
      simp only [List.getElem_toArray, List.getElem_cons_succ, List.getElem_cons_zero, Act.put, List.setIfInBounds_toArray, List.set_cons_zero, List.set_cons_succ]
      refine wpAnyH_done (by kernel_rfl) ?_ _
      clear s1 s2 q1
      go_wp2
      go_ret2
      obtain rfl := hN.out
      exact ⟨ret_two (by rw [hres.out, hsum.out]), hbb.out.step hHeld.1⟩
  · have hres : Hid (ticksFor b xs = (0, codeOf b xs)) := Lib.hid (by rw [ticksFor, if_neg h0])
    have hcs := codeOf_cases b xs
    generalize codeOf b xs = q at *
    generalize ticksFor b xs = r at *
    replace hcd := Lib.hid hcd
    have hq0 : (q == 0) = false := by simpa using h0
    clear h0
    rcases hcs with rfl | rfl | rfl
    · simp at hq0
    · clear hq0
      go_enter Try.func83, Try.ntmps83
      go_wp2_with fail
      refine (hcd.out _ (h.below (below_a1 _ _))).mono ?_
      rintro e w1 ⟨A', n', c', rfl, hn', hO, hb1⟩
      go_wp2
      go_ret2
      exact ⟨ret_two hres.out, (below_a1 _ _).step hb1⟩
    · clear hq0
      go_enter Try.func83, Try.ntmps83
      go_wp2_with fail
      refine (hcd.out _ (h.below (below_a1 _ _))).mono ?_
      rintro e w1 ⟨A', n', c', rfl, hn', hO, hb1⟩
      go_wp2
      go_ret2
      exact ⟨ret_two hres.out, (below_a1 _ _).step hb1⟩
end Go.Proofs.Ytfhlpojaldidpaa
