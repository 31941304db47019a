/- The program's compareLayouts. -/
import Derived.Test.YticggclpaalhgaaBoA
import Derived.Test.YticggclpaalhgaaRdC
import Derived.Test.YticggclpaalhgaaMapRng
import Derived.OwnWalk
namespace Go.Proofs.Yticggclpaalhgaa
open Go.RowKit Go.ChangeMaps Go.MapKept
set_option linter.unusedVariables false
set_option linter.unusedSimpArgs false

theorem sameLen_any (s t : ByteArray) (w : World) (h1 : s.size ≤ 1048576) (h2 : t.size ≤ 1048576) (v : Bool) (hv : ((s.size : Int) == (t.size : Int)) = v) : Calls Try.prog 85 #[.string s, .string t] w fun e w' => e = .returned (.bool v) ∧ w = w' := by
  go_enter Try.func85, Try.ntmps85
  go_wp2
  go_ret
  first | exact ⟨rfl, rfl⟩ | exact ⟨ret_bo hv, rfl⟩ | exact ⟨ret_bo (by rw [← hv]; simp), rfl⟩
set_option maxHeartbeats 800000 in
theorem eqf_any (A B : Option Addr) (n m c d : Nat) (xs ys : List ByteArray) (w : World) (hA : Strs w A n xs) (hB : Strs w B m ys) (hn : n ≤ 1048576) (hm : m ≤ 1048576) (hs : ∀ s ∈ xs, s.size ≤ 1048576) (hs' : ∀ s ∈ ys, s.size ≤ 1048576) (v : Bool) (hv : sameShape xs ys = v) :
    Calls Try.prog 86 #[.slice A n c, .slice B m d, .func (.func 85) #[] #[]] w fun e w' => e = .returned (.bool v) ∧ w = w' := by
  have hlx := Lib.hid hA.1
  have hly := Lib.hid hB.1
  replace hv := Lib.hid hv
  replace hs := Lib.hid hs
  replace hs' := Lib.hid hs'
  by_cases hl : n = m
  · subst hl
    go_enter Try.func86, Try.ntmps86
    go_wp2
    go_loop [7, 8, 9, 17] (fun _ _ _ i => ∃ k : Nat, k ≤ n ∧ i = .int .i64 k ∧ ∀ (q : Nat) (s t : ByteArray), q < k → xs[q]? = some s → ys[q]? = some t → s.size = t.size) (fun _ _ _ i => n - (intOf i).toNat)
    case atStart => exact ⟨0, by omega, rfl, fun q s t hq => absurd hq (by omega)⟩
    case round =>
      obtain ⟨k, hk, rfl, hall⟩ := hrel
      replace hall := Lib.hid hall
      by_cases hlt : k < n
      · obtain ⟨b, off, x, rfl, hb, hx, c0⟩ := str_at hA hlt
        obtain ⟨b', off', y, rfl, hb', hy, d0⟩ := str_at hB hlt
        have hxs : x.size ≤ 1048576 := hs.out x (List.mem_of_getElem? hx.out)
        have hys : y.size ≤ 1048576 := hs'.out y (List.mem_of_getElem? hy.out)
        have hk0 : (0 : Int) ≤ (k : Int) := Int.natCast_nonneg _
        have hk1 : (k : Int) < (n : Int) := by omega
        by_cases hq : x.size = y.size
        · have hnx : Hid (∀ (q : Nat) (s t : ByteArray), q < k + 1 → xs[q]? = some s → ys[q]? = some t → s.size = t.size) := Lib.hid fun q s t hq' h1 h2 => by
            rcases Nat.lt_or_ge q k with h' | h'
            · exact hall.out q s t h' h1 h2
            · obtain rfl : q = k := by omega
              rw [hx.out] at h1
              rw [hy.out] at h2
              cases h1; cases h2
              exact hq
          have hcall := Lib.hid (fun W => sameLen_any x y W hxs hys true (by rw [hq]; exact beq_self_eq_true _))
          clear hq
          go_wp2_with fail
          refine (hcall.out _).mono ?_
          rintro e w1 ⟨rfl, rfl⟩
          go_wp2
          go_round
          case rel => exact ⟨k + 1, by omega, by go_num, hnx.out⟩
          case measure => simp [intOf]; omega
        · have hres := Lib.hid (hv.out.symm.trans (shape_stop hx.out hy.out hq))
          have hcall := Lib.hid (fun W => sameLen_any x y W hxs hys false (beq_eq_false_iff_ne.2 (by omega)))
          clear hq
          go_wp2_with fail
          refine (hcall.out _).mono ?_
          rintro e w1 ⟨rfl, rfl⟩
          go_wp2
          go_ret
          exact ⟨ret_bo hres.out.symm, rfl⟩
      · obtain rfl : k = n := by omega
        have hres := Lib.hid (hv.out.symm.trans (shape_end (by rw [hlx.out, hly.out]) (fun q s t h1 h2 => hall.out q s t (by rw [← hlx.out]; exact (List.getElem?_eq_some_iff.1 h1).1) h1 h2)))
        go_wp2
        go_ret
        exact ⟨ret_bo hres.out.symm, rfl⟩
  · have hl' : ((n : Int) == (m : Int)) = false := beq_eq_false_iff_ne.2 (by omega)
    have hres := Lib.hid (hv.out.symm.trans (shape_len (by rw [hlx.out, hly.out]; exact hl)))
    clear hl
    go_enter Try.func86, Try.ntmps86
    go_wp2
    go_ret
    exact ⟨ret_bo hres.out.symm, rfl⟩
/-- compareLayouts: the spots in two maps of its own, or the code. -/
def CmpOut (xs ys : List ByteArray) (w : World) (e : Ending) (w' : World) : Prop :=
  (bothCode xs ys = 0 ∧ ∃ M1 M2, e = .returned (.tuple #[.map (some M1), .map (some M2), .int .i64 0]) ∧ w.heap.size ≤ M1 ∧ w.heap.size ≤ M2 ∧ MapIs byteV w' M1 (spotL6 (keysFrom 0 xs)) ∧ MapIs byteV w' M2 (spotL6 (keysFrom 0 ys)) ∧ Below w.heap.size w w') ∨
  (bothCode xs ys ≠ 0 ∧ e = .returned (.tuple #[.map none, .map none, .int .i64 (bothCode xs ys)]) ∧ Below w.heap.size w w')
theorem byteV_inj : ∀ a b : UInt8, byteV a = byteV b → a = b := fun a b h => by
  unfold byteV at h
  injection h with _ h2
  exact UInt8.toNat_inj.1 (by omega)

set_option maxRecDepth 100000 in
set_option maxHeartbeats 3200000 in
theorem cmp_any (A : Option Addr) (n c : Nat) (xs : List ByteArray) (B : Option Addr) (m d : Nat) (ys : List ByteArray) (w : World) (h : Strs w A n xs) (hn : n ≤ 1048576) (hs : ∀ s ∈ xs, s.size ≤ 1048576) (h' : Strs w B m ys) (hm : m ≤ 1048576) (hs' : ∀ s ∈ ys, s.size ≤ 1048576) :
    Calls Try.prog 61 #[.agg #[.slice A n c], .agg #[.slice B m d]] w (CmpOut xs ys w) := by
  have hb0 := Lib.hid (below_a2 w (.cells #[.slice A n c] 27) (.cells #[.slice B m d] 27))
  have k0 : ((w.alloc (.cells #[.slice A n c] 27)).alloc (.cells #[.slice B m d] 27)).cell? ⟨w.heap.size, 0, none⟩ = some (.slice A n c) := cell_on (cell_new rfl rfl) _
  have k1 : ((w.alloc (.cells #[.slice A n c] 27)).alloc (.cells #[.slice B m d] 27)).cell? ⟨w.heap.size + 1, 0, none⟩ = some (.slice B m d) := cell_new (by simp) rfl
  have hq := Lib.hid (fun W (hW : Strs W A n xs) => spotsOf_any A n c xs W hW hn hs)
  have hq2 := Lib.hid (fun W (hW : Strs W B m ys) => spotsOf_any B m d ys W hW hm hs')
  have hqe := Lib.hid (fun W (hW : Strs W A n xs) (hW' : Strs W B m ys) => eqf_any A B n m c d xs ys W hW hW' hn hm hs hs' _ rfl)
  have hX := h.below hb0.out
  have hY := h'.below hb0.out
  go_enter Try.func61, Try.ntmps61
  go_wp2_with fail
  refine (hq.out _ hX).mono ?_
  rintro e w1 (⟨h1, M1, rfl, hM0, hM1, hb1⟩ | ⟨h1, rfl, hb1⟩)
  · have hbw := Lib.hid (hb0.out.step hb1)
    replace k1 := cell_step k1 hb1
    replace k0 := cell_step k0 hb1
    go_wp2_with fail
    refine (hq2.out _ (hY.below hb1)).mono ?_
    rintro e w2 (⟨h2, M2, rfl, hN0, hN1, hb2⟩ | ⟨h2, rfl, hb2⟩)
    · have hbw2 := Lib.hid (hbw.out.step hb2)
      replace k1 := cell_step k1 hb2
      replace k0 := cell_step k0 hb2
      replace hM1 := hM1.below hb2 hM1.lt
      have hX2 := (hX.below hb1).below hb2
      have hY2 := (hY.below hb1).below hb2
      cases h3 : sameShape xs ys with
      | false =>
        have h9 := Lib.hid (both_9 h1 h2 (.inl h3))
        rw [h3] at hqe
        clear h1 h2 h3 hM1 hN1 hb1 hb2
        go_wp2_with fail
        refine (hqe.out _ hX2 hY2).mono ?_
        rintro e w3 ⟨rfl, rfl⟩
        go_wp2
        go_ret3
        exact .inr ⟨by rw [h9.out]; decide, by rw [h9.out]; rfl, hbw2.out⟩
      | true =>
        have h9 : Hid (allIn xs ys = false → bothCode xs ys = 9) := Lib.hid fun hh => both_9 h1 h2 (.inr hh)
        have h0 : Hid (allIn xs ys = true → bothCode xs ys = 0) := Lib.hid fun hh => both_0 h1 h2 h3 hh
        rw [h3] at hqe
        have hMl := hM1.lt
        have hNl := hN1.lt
        obtain ⟨wr0, hrun0, hrg0, hbr0, hsz0⟩ := hM1.range (P := Try.prog) (t := 57) Try.underlying57
        have hM1' := hM1.below hbr0 hMl
        have hN1' := hN1.below hbr0 hNl
        have hbw3 := Lib.hid (hbw2.out.step hbr0)
        have hz1 := hbw.out.size
        have hz2 := hb2.size
        simp only [World.size_alloc] at hM0
        generalize hI : w2.heap.size = wI at *
        clear h1 h2 h3 hb1 hb2 hM1 hN1
        go_wp2_with fail
        refine (hqe.out _ hX2 hY2).mono ?_
        rintro e w3 ⟨rfl, rfl⟩
        rename World => wb
        go_wp2
        have hne : wI ≠ M1 := by omega
        go_loopw [4, 5, 6, 10, 11, 12] (fun a b _ _ _ _ wr => ∃ dn : List (UInt8 × Value), a = .map (some M1) ∧ b = .map (some M2) ∧ Ranging byteV wr wI M1 (spotL6 (keysFrom 0 xs)) dn ∧ (∀ x ∈ dn, (look6 x.1 (keysFrom 0 ys)).isSome = true) ∧ MapIs byteV wr M2 (spotL6 (keysFrom 0 ys)) ∧ MapIs byteV wr M1 (spotL6 (keysFrom 0 xs)) ∧ Below w.heap.size w wr) (fun _ _ _ _ _ _ wr => (spotL6 (keysFrom 0 xs)).length - (wr.iterSeen wI).size)
        case atStart => exact ⟨[], rfl, rfl, hrg0, by simp, hN1', hM1', hbw3.out⟩
        case round =>
          obtain ⟨dn, rfl, rfl, hrg, hfound, hN, hM, hbr⟩ := hrel
          replace hfound := Lib.hid hfound
          replace hbr := Lib.hid hbr
          have hseen := Lib.hid hrg.seen
          rcases hrg.next (P := Try.prog) hne with ⟨hall, hdl, hpm, hrun⟩ | ⟨k, v, w4, hkv, hdl, hrun, hent, hrg4, hgr4⟩
          · have hok : Hid (bothCode xs ys = 0) := Lib.hid (h0.out (by
              unfold allIn
              rw [List.all_eq_true]
              intro e he
              obtain ⟨y, hy, e1, _⟩ := hall (e.1, spotV6 e.2) (List.mem_map_of_mem (f := fun x : UInt8 × Nat × Nat => (x.1, spotV6 x.2)) he)
              have := hfound.out y hy
              rwa [byteV_inj _ _ e1] at this))
            replace hM := Lib.hid hM
            replace hN := Lib.hid hN
            clear hall hpm hrg hne
            go_wp2
            go_ret3
            exact .inl ⟨hok.out, M1, M2, rfl, by omega, by omega, hM.out, hN.out, hbr.out⟩
          · have hN4 := (hN.block (hgr4.block M2 hN.lt (by simp; omega)))
            have hM4 := (hM.block (hgr4.block M1 hM.lt (by simp; omega)))
            have hb4 := Lib.hid (hbr.out.grown hgr4 hbr.out.size (fun j hj => by cases hj; omega))
            have hNl4 := hN4.lt
            have hIl4 := hrg4.lt.1
            obtain ⟨e0, he0, hke⟩ := List.mem_map.1 hkv
            simp only [Prod.mk.injEq] at hke
            obtain ⟨rfl, rfl⟩ := hke
            cases hl : look6 e0.1 (keysFrom 0 ys) with
            | none =>
              have hval : (valOf e0.1 (spotL6 (keysFrom 0 ys))).getD (.agg #[.int .i64 0, .int .i64 0]) = .agg #[.int .i64 0, .int .i64 0] := by rw [val_spot6, hl]; rfl
              have hok : (valOf e0.1 (spotL6 (keysFrom 0 ys))).isSome = false := by rw [val_spot6, hl]; rfl
              have hres : Hid (bothCode xs ys = 9) := Lib.hid (h9.out (by
                unfold allIn
                rw [List.all_eq_false]
                exact ⟨e0, he0, by simp [hl]⟩))
              replace hval := Lib.hid hval
              replace hok := Lib.hid hok
              clear hl hkv he0 hrg4
              go_wp2_with (at_lookup; refine wpList_look_is rfl _ _ _ 5 61 rfl byteKey6 Try.underlying57 (zero_spot6 _) rfl hN4 e0.1 rfl hval.out hok.out ?_)
              go_ret3
              exact .inr ⟨by rw [hres.out]; decide, by rw [hres.out]; rfl, hb4.out.alloc hb4.out.size _⟩
            | some p =>
              have hval : (valOf e0.1 (spotL6 (keysFrom 0 ys))).getD (.agg #[.int .i64 0, .int .i64 0]) = .agg #[.int .i64 (p.1 : Int), .int .i64 (p.2 : Int)] := by rw [val_spot6, hl]; rfl
              have hok : (valOf e0.1 (spotL6 (keysFrom 0 ys))).isSome = true := by rw [val_spot6, hl]; rfl
              have hf4 : Hid (∀ x ∈ dn ++ [(e0.1, spotV6 e0.2)], (look6 x.1 (keysFrom 0 ys)).isSome = true) := Lib.hid fun x hx => by
                rcases List.mem_append.1 hx with h | h
                · exact hfound.out x h
                · simp only [List.mem_singleton] at h
                  subst h
                  simp only
                  rw [hl]; rfl
              replace hval := Lib.hid hval
              replace hok := Lib.hid hok
              replace hrg4 := Lib.hid hrg4
              clear hl hkv he0
              go_wp2_with (at_lookup; refine wpList_look_is rfl _ _ _ 5 61 rfl byteKey6 Try.underlying57 (zero_spot6 _) rfl hN4 e0.1 rfl hval.out hok.out ?_)
              go_roundw
              case rel => exact ⟨_, rfl, rfl, hrg4.out.below (below_a1 _ _), hf4.out, hN4.below (B := w4.heap.size) (below_a1 _ _) hN4.lt, hM4.below (B := w4.heap.size) (below_a1 _ _) hM4.lt, hb4.out.alloc hb4.out.size _⟩
              case measure =>
                rw [(hrg4.out.below (below_a1 _ _)).seen, hseen.out]
                simp only [List.length_append, List.length_cons, List.length_nil]
                omega
    · have hbw2 := Lib.hid (hbw.out.step hb2)
      have h9 := Lib.hid (both_1 (xs := xs) (.inr h2))
      clear h1 h2
      go_wp2
      go_ret3
      exact .inr ⟨by rw [h9.out]; decide, by rw [h9.out]; rfl, hbw2.out⟩
  · have hbw := Lib.hid (hb0.out.step hb1)
    have h9 := Lib.hid (both_1 (ys := ys) (.inl h1))
    replace k1 := cell_step k1 hb1
    clear h1
    go_wp2_with fail
    refine (hq2.out _ (hY.below hb1)).mono ?_
    rintro e w2 (⟨h2, M2, rfl, hN0, hN1, hb2⟩ | ⟨h2, rfl, hb2⟩)
    · have hbw2 := Lib.hid (hbw.out.step hb2)
      clear h2 hN1
      go_wp2
      go_ret3
      exact .inr ⟨by rw [h9.out]; decide, by rw [h9.out]; rfl, hbw2.out⟩
    · have hbw2 := Lib.hid (hbw.out.step hb2)
      clear h2
      go_wp2
      go_ret3
      exact .inr ⟨by rw [h9.out]; decide, by rw [h9.out]; rfl, hbw2.out⟩
end Go.Proofs.Yticggclpaalhgaa
