/- Slices of slices that the law compares, marks and looks at again. -/
import Derived.Test.YtbhncpdjdllkhaaSssT
import Derived.Deep.RegionHeld3
namespace Go.Proofs.Ytbhncpdjdllkhaa
open Go.RowKit Go.ChangeShapes Go.WideShapes Go.Deep
set_option linter.unusedVariables false
set_option linter.unusedSimpArgs false

set_option maxHeartbeats 800000 in
theorem eqSss_any (A B : Option Addr) (n m c d : Nat) (xss yss : List (List ByteArray)) (w : World) (hA : StrSS w A n xss) (hB : StrSS w B m yss) (he : xss = yss) (hn : n ≤ 1048576) (ht : totS xss ≤ 1048576) :
    Calls Try.prog 30 #[.slice A n c, .slice B m d] w fun e w' => e = .returned (.bool true) ∧ Below w.heap.size w w' := by
  subst he
  obtain rfl : n = m := by rw [← hA.len, hB.len]
  have hle := Lib.hid (fun (k : Nat) (xs : List ByteArray) (hx : xss[k]? = some xs) => totS_le hx)
  go_enter Try.func30, Try.ntmps30
  go_wp2
  go_loopw [5] (fun i wr => ∃ k : Nat, k ≤ n ∧ i = .int .i64 k ∧ Below w.heap.size w wr) (fun i _ => n - (intOf i).toNat)
  case atStart => exact ⟨0, by omega, rfl, Below.refl _ _⟩
  case round =>
    obtain ⟨k, hk, rfl, hbw⟩ := hrel
    by_cases hlt : k < n
    · obtain ⟨b, off, B1, m1, c1, xs, rfl, hb, hx, f0, hI, hm⟩ := sss_at (hA.below hbw) hlt
      obtain ⟨b', off', B2, m2, c2, ys, rfl, hb', hy, f1, hI2, hm'⟩ := sss_at (hB.below hbw) hlt
      obtain rfl : xs = ys := by have h1 := hx.out; have h2 := hy.out; rw [h1] at h2; exact Option.some.inj h2
      have hm2 : m1 ≤ 1048576 := by have h1 := hle.out k xs hx.out; have h2 := hI.1; omega
      have hc := Lib.hid (fun W (hW : Below wr.heap.size wr W) => eqStrS_any B1 B2 m1 m2 c1 c2 xs xs W (hI.below hW) (hI2.below hW) rfl hm2)
      have hk0 : (0 : Int) ≤ (k : Int) := Int.natCast_nonneg _
      have hk1 : (k : Int) < (n : Int) := by omega
      clear hI hI2
      go_wp2_with fail
      refine wp_region_held_drew (S := fun w' => Below wr.heap.size wr w' ∧ w'.cell? ⟨b, off + k, none⟩ = some (.slice B1 m1 c1) ∧ w'.cell? ⟨b', off' + k, none⟩ = some (.slice B2 m2 c2)) (by kernel_rfl) ?_ (fun hHeld => ?_)
      · exact ⟨(Below.refl _ _).drew, f0, f1⟩
      refine wpAnyH_take (i := 0) (v := ?va0) rfl (by kernel_rfl) (by kernel_rfl) (by kernel_rfl) (fun _ _ _ h => h) (Or.inl ⟨rfl, ?ya0⟩) (by assumption) ?_
      case ya0 => (intro w hSw; (try dsimp only at hSw); go_simp; first | done | with_reducible rfl)
      simp only [List.getElem_toArray, List.getElem_cons_succ, List.getElem_cons_zero, Act.put, List.setIfInBounds_toArray, List.set_cons_zero, List.set_cons_succ]
      refine wpAnyH_take (i := 1) (v := ?va1) rfl (by kernel_rfl) (by kernel_rfl) (by kernel_rfl) (fun _ _ _ h => h) (Or.inl ⟨rfl, ?ya1⟩) (by assumption) ?_
      case ya1 => (intro w hSw; (try dsimp only at hSw); go_simp; first | done | with_reducible rfl)
      simp only [List.getElem_toArray, List.getElem_cons_succ, List.getElem_cons_zero, Act.put, List.setIfInBounds_toArray, List.set_cons_zero, List.set_cons_succ]
      refine wpAnyH_take (i := 2) (v := ?va2) rfl (by kernel_rfl) (by kernel_rfl) (by kernel_rfl) (fun _ _ _ h => h) (Or.inl ⟨rfl, ?ya2⟩) (by assumption) ?_
      case ya2 => (intro w hSw; (try dsimp only at hSw); go_simp; first | done | with_reducible rfl)
      simp only [List.getElem_toArray, List.getElem_cons_succ, List.getElem_cons_zero, Act.put, List.setIfInBounds_toArray, List.set_cons_zero, List.set_cons_succ]
      refine wpAnyH_take (i := 3) (v := ?va3) rfl (by kernel_rfl) (by kernel_rfl) (by kernel_rfl) (fun _ _ _ h => h) (Or.inl ⟨rfl, ?ya3⟩) (by assumption) ?_
      case ya3 => (intro w hSw; (try dsimp only at hSw); go_simp; first | done | with_reducible rfl)
      simp only [List.getElem_toArray, List.getElem_cons_succ, List.getElem_cons_zero, Act.put, List.setIfInBounds_toArray, List.set_cons_zero, List.set_cons_succ]
      refine wpAnyH_take (i := 4) (v := ?va4) rfl (by kernel_rfl) (by kernel_rfl) (by kernel_rfl) (fun _ _ _ h => h) (Or.inl ⟨rfl, ?ya4⟩) (by assumption) ?_
      case ya4 => (intro w hSw; (try dsimp only at hSw); go_simp; first | done | with_reducible rfl)
      simp only [List.getElem_toArray, List.getElem_cons_succ, List.getElem_cons_zero, Act.put, List.setIfInBounds_toArray, List.set_cons_zero, List.set_cons_succ]
      refine wpAnyH_take (i := 5) (v := ?va5) rfl (by kernel_rfl) (by kernel_rfl) (by kernel_rfl) (fun _ _ _ h => h) (Or.inl ⟨rfl, ?ya5⟩) (by assumption) ?_
      case ya5 => (intro w hSw; (try dsimp only at hSw); go_simp; first | done | with_reducible rfl)
      simp only [List.getElem_toArray, List.getElem_cons_succ, List.getElem_cons_zero, Act.put, List.setIfInBounds_toArray, List.set_cons_zero, List.set_cons_succ]
      refine wpAnyH_take (i := 6) (v := ?va6) rfl (by kernel_rfl) (by kernel_rfl) (by kernel_rfl) (fun _ _ _ h => h) (Or.inl ⟨rfl, ?ya6⟩) (by assumption) ?_
      case ya6 => (intro w hSw; (try dsimp only at hSw); go_simp; first | done | with_reducible rfl)
      simp only [List.getElem_toArray, List.getElem_cons_succ, List.getElem_cons_zero, Act.put, List.setIfInBounds_toArray, List.set_cons_zero, List.set_cons_succ]
      refine wpAnyH_take (i := 7) (v := ?va7) rfl (by kernel_rfl) (by kernel_rfl) (by kernel_rfl) (fun _ _ _ h => h) (Or.inl ⟨rfl, ?ya7⟩) (by assumption) ?_
      case ya7 => (intro w hSw; (try dsimp only at hSw); go_simp; first | done | with_reducible rfl)
      simp only [List.getElem_toArray, List.getElem_cons_succ, List.getElem_cons_zero, Act.put, List.setIfInBounds_toArray, List.set_cons_zero, List.set_cons_succ]
      refine wpAnyH_ready (rs := [8]) (by kernel_rfl) (by simp) ?_
      refine AllReadyH.cons rfl (fun K hK => ?_) AllReadyH.nil
      go_simp
      refine (hc.out _ hHeld.1).mono ?_
      rintro e w1 ⟨rfl, hb1⟩
      go_wp2_with fail
      refine hK.out _ _ ?_ (fun hHeld => ?_)
      · exact kept2 hHeld hb1
      clear hK K hb1
      try simp only [List.getElem_toArray, List.getElem_cons_succ, List.getElem_cons_zero, Act.put, List.setIfInBounds_toArray, List.set_cons_zero, List.set_cons_succ]
      refine wpAnyH_take (i := 9) (v := ?va9) rfl (by kernel_rfl) (by kernel_rfl) (by kernel_rfl) (fun _ _ _ h => h) (Or.inl ⟨rfl, ?ya9⟩) (by assumption) ?_
      case ya9 => (intro w hSw; (try dsimp only at hSw); go_simp; first | done | with_reducible rfl)
      simp only [List.getElem_toArray, List.getElem_cons_succ, List.getElem_cons_zero, Act.put, List.setIfInBounds_toArray, List.set_cons_zero, List.set_cons_succ]
      refine wpAnyH_done (by kernel_rfl) ?_ _
      go_wp2
      go_roundw
      case rel => exact ⟨k + 1, by omega, by go_num, hbw.step hHeld.1⟩
      case measure => simp [intOf]; omega
    · obtain rfl : k = n := by omega
      go_wp2
      go_ret
      exact ⟨rfl, hbw⟩

theorem OStrSS.at_ {w : World} {lo hi n k : Nat} {A : Option Addr} {xss : List (List ByteArray)} (h : OStrSS w lo hi A n xss) (hk : k < n) :
    ∃ g B m c xs, A = some ⟨g, 0, none⟩ ∧ g < w.heap.size ∧ Hid (xss[k]? = some xs) ∧ w.cell? ⟨g, k, none⟩ = some (.slice B m c) ∧ OStrs w lo B m xs ∧ m ≤ 1048576 ∧ (∀ q, B = some q → lo ≤ q.block ∧ q.block < hi) ∧
      (∀ w' ys, w.grownBy w' (B.map (·.block)) → OStrs w' lo B m ys → OStrSS w' lo hi A n (xss.set k ys)) := by
  obtain ⟨rs, h1, h2, h3, h4, h5, h6⟩ := h
  obtain ⟨b, off, r, e, hb, hx, hc⟩ := h1.srow.at_ hk
  have hl : k < xss.length := by omega
  have hxs : xss[k]? = some xss[k] := List.getElem?_eq_getElem hl
  obtain ⟨a1, a2⟩ := h4 k r _ hx hxs
  have hoff : off = 0 := by
    rcases h1 with ⟨_, ⟨h0, _⟩ | ⟨g, _, _, h0, _⟩⟩
    · rw [h0] at e; cases e
    · rw [h0] at e; cases e; rfl
  subst hoff
  have h0 := hc 0 _ rfl
  rw [Nat.mul_one, Nat.add_zero, Nat.zero_add] at h0
  refine ⟨b, r.A, r.n, r.c, xss[k], e, hb, Lib.hid hxs, h0, a1, a2, fun q hq => ⟨a1.own q hq, (h5 k r q hx hq).1⟩, fun w' ys hg hO => ⟨rs, ?_, by simp [h2], h3, fun i s zs hs hz => ?_, h5, h6⟩⟩
  · refine h1.block fun p hp => hg.block _ (h1.lt p hp) ?_
    cases hrA : r.A with
    | none => simp
    | some q => have := (h5 k r q hx hrA).2 p hp; simp; omega
  · by_cases hik : k = i
    · subst hik
      rw [hx] at hs
      cases hs
      rw [List.getElem?_set_self hl] at hz
      cases hz
      exact ⟨hO, a2⟩
    · rw [List.getElem?_set_ne hik] at hz
      obtain ⟨b1, b2⟩ := h4 i s zs hs hz
      refine ⟨b1.block fun p hp => hg.block _ (b1.lt p hp) ?_, b2⟩
      cases hrA : r.A with
      | none => simp
      | some q => have := h6 k i r s q p hik hx hs hrA hp; simp; omega

/-- Younger blocks are written. -/
theorem OStrSS.only {w w' : World} {lo hi lo2 hi2 n : Nat} {A : Option Addr} {xss : List (List ByteArray)} (h : OStrSS w lo hi A n xss) (hg : OnlyIn lo2 hi2 w w') (hd : hi ≤ lo2) : OStrSS w' lo hi A n xss := by
  obtain ⟨rs, h1, h2, h3, h4, h5, h6⟩ := h
  exact ⟨rs, h1.only hg (fun q hq => Or.inl (Nat.lt_of_lt_of_le (h3 q hq) hd)), h2, h3, fun i r xs hr hx => ⟨(h4 i r xs hr hx).1.only hg (fun q hq => Or.inl (Nat.lt_of_lt_of_le (h5 i r q hr hq).1 hd)), (h4 i r xs hr hx).2⟩, h5, h6⟩
theorem marks_setS {M X : List (List ByteArray)} {i : Nat} {y : List ByteArray} (hl : M.length = X.length) (hy : M[i]? = some y) : (M.take i ++ X.drop i).set i y = M.take (i + 1) ++ X.drop (i + 1) := by
  have hi : i < M.length := (List.getElem?_eq_some_iff.1 hy).1
  have e : M[i] = y := (List.getElem?_eq_some_iff.1 hy).2
  rw [List.drop_eq_getElem_cons (by omega : i < X.length), List.take_succ_eq_append_getElem hi, e]
  have hlen : (M.take i).length = i := by rw [List.length_take]; omega
  rw [List.set_append_right _ _ (by omega), hlen, Nat.sub_self, List.set_cons_zero, List.append_assoc]
  rfl

set_option maxHeartbeats 800000 in
theorem markSss_any (A : Option Addr) (n c : Nat) (k : Int) (xss : List (List ByteArray)) (lo hi : Nat) (w : World) (h : OStrSS w lo hi A n xss) (hn : n ≤ 1048576) (ht : totS xss ≤ 1048576) (hk0 : 1 ≤ k) (hk1 : k ≤ 1073741824) :
    Calls Try.prog 31 #[.slice A n c, .int .i64 k] w fun e w' => e = .returned (.int .i64 (k + (totS xss : Int))) ∧ OStrSS w' lo hi A n (marksSt k xss) ∧ OnlyIn lo hi w w' := by
  have hlen := Lib.hid (show xss.length = n from h.srow.len)
  have hmk := Lib.hid (fun i xs (hx : xss[i]? = some xs) => marksSt_at xss k i xs hx)
  have hml := Lib.hid (marksSt_length k xss)
  have htl := Lib.hid (totS_take_le xss)
  go_enter Try.func31, Try.ntmps31
  go_wp2
  go_loopw [1, 5] (fun kv i wr => ∃ j : Nat, j ≤ n ∧ i = .int .i64 j ∧ kv = .int .i64 (k + (totS (xss.take j) : Int)) ∧ OnlyIn lo hi w wr ∧ OStrSS wr lo hi A n ((marksSt k xss).take j ++ xss.drop j)) (fun _ i _ => n - (intOf i).toNat)
  case atStart => exact ⟨0, by omega, rfl, by simp [totS], OnlyIn.refl _ _ _, by simpa using h⟩
  case round =>
    obtain ⟨j, hj, rfl, rfl, hgr, hO⟩ := hrel
    by_cases hlt : j < n
    · obtain ⟨g, B, m, cc, xs, rfl, hg, hx, c0, hI, hm, hB, hput⟩ := hO.at_ hlt
      have hx1 : Hid (xss[j]? = some xs) := Lib.hid (by
        have h1 := hx.out
        have h2 := hml.out
        have h3 := hlen.out
        have h4 : ((marksSt k xss).take j).length = j := by rw [List.length_take]; omega
        rw [List.getElem?_append_right (by omega), h4, Nat.sub_self, List.getElem?_drop, Nat.add_zero] at h1
        exact h1)
      have hxl : xs.length = m := hI.1
      have htj := htl.out j
      have hnx : Hid ((totS (xss.take (j + 1)) : Int) = (totS (xss.take j) : Int) + m) := Lib.hid (by rw [totS_take hx1.out, hxl, Int.natCast_add])
      generalize hT : (totS (xss.take j) : Int) = T at *
      have hT0 : 0 ≤ T := by omega
      have hT1 : T ≤ 1048576 := by omega
      have hmj := hmk.out j xs hx1.out
      rw [hT, hxl] at hmj
      have hset := Lib.hid (marks_setS (X := xss) (by rw [hml.out]) hmj)
      replace hmj := Lib.hid hmj
      replace hput := Lib.hid hput
      replace hxl := Lib.hid hxl
      replace hT := Lib.hid hT
      clear hO
      go_wp2_with fail
      refine (markStrS_any B m cc (k + T) xs lo _ hI hm (by omega) (by omega)).mono ?_
      rintro e w1 ⟨rfl, hO1, hg1⟩
      have hnext := Lib.hid (hput.out _ _ hg1 hO1)
      rw [hset.out] at hnext
      have hgr1 := Lib.hid (hgr.trans (OnlyIn.of_grown hg1 hB))
      have hval : Hid (k + (totS (xss.take (j + 1)) : Int) = k + T + m) := Lib.hid (by rw [hnx.out]; omega)
      clear hg1 hO1 hB hgr hI
      go_wp2
      go_roundw
      case rel => exact ⟨j + 1, by omega, by go_num, by rw [hval.out], hgr1.out, hnext.out⟩
      case measure => simp [intOf]; omega
    · obtain rfl : j = n := by omega
      rw [List.drop_of_length_le (by rw [hlen.out]; omega), List.append_nil, List.take_of_length_le (by rw [hml.out, hlen.out]; omega)] at hO
      rw [totS_all (by rw [hlen.out]; omega)]
      have hres := Lib.hid hO
      clear hO
      go_wp2
      go_ret
      exact ⟨rfl, hres.out, hgr⟩

end Go.Proofs.Ytbhncpdjdllkhaa
