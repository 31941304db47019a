/- PairsOf: the model's function and the program's. -/
import Derived.Test.YtgiphckiiapcaaaPair2
namespace Go.Proofs.Ytgiphckiiapcaaa
open Go.RowKit
set_option linter.unusedVariables false
set_option linter.unusedSimpArgs false

/-- A slice of slices that the call owns, and a code. -/
def PsOut (r : List (List Int) × Int) (w : World) (e : Ending) (w' : World) : Prop :=
  ∃ A n c, e = .returned (.tuple #[.slice A n c, .int .i64 r.2]) ∧ n ≤ 1048576 ∧ OIntSS w' w.heap.size w'.heap.size A n r.1 ∧ Below w.heap.size w w'
theorem OIntSS.nil_ (w : World) (lo hi : Nat) : OIntSS w lo hi none 0 [] :=
  ⟨[], ORow.nil_, rfl, (fun q hq => by cases hq), (fun i r xs hr => by simp at hr), (fun i r p hr => by simp at hr), (fun i j r s p q _ hr => by simp at hr)⟩
theorem PsOut.bad {r : List (List Int) × Int} {w w' : World} {code : Int} (hr : r = ([], code)) (hb : Below w.heap.size w w') : PsOut r w (.returned (.tuple #[.slice none 0 0, .int .i64 code])) w' := by
  subst hr
  exact ⟨none, 0, 0, rfl, by omega, OIntSS.nil_ _ _ _, hb⟩
theorem tabOk.tot_le {n : Nat} {T : List (List Int)} (h : tabOk n T) (hn : n ≤ 7) : tot T ≤ 49 := by
  obtain ⟨h1, h2⟩ := h
  have h3 : ∀ (l : List (List Int)), (∀ x ∈ l, x.length = n) → tot l = l.length * n := fun l => by
    induction l with
    | nil => intro _; simp [tot]
    | cons x l ih =>
      intro hl
      have := ih fun y hy => hl y (List.mem_cons_of_mem _ hy)
      have h4 : tot (x :: l) = x.length + tot l := by simp [tot]
      rw [h4, this, hl x List.mem_cons_self, List.length_cons, Nat.add_mul]
      omega
  rw [h3 T fun x hx => by obtain ⟨i, hi, rfl⟩ := List.getElem_of_mem hx; exact (h2 i _ (List.getElem?_eq_getElem hi)).1, h1]
  exact Nat.mul_le_mul hn hn
theorem pairsOf_tot (s t : ByteArray) : tot (pairsOf s t (bytesIn 32 126 s)).1 ≤ 1048576 := by
  unfold pairsOf
  split
  · rename_i h
    simp only [alphaB, Bool.and_eq_true, decide_eq_true_eq] at h
    have h7 : s.data.toList.length ≤ 7 := by have := h.1.2.1.1; show s.size ≤ 7; omega
    have := (pairsTo_ok s.data.toList t.data.toList (t.size - 1)).tot_le h7
    simp only
    omega
  · simp [tot]
theorem pairsTo_next {s t : ByteArray} {k : Nat} (hk1 : 1 ≤ k) (hk : k < t.size) : pairsTo s.data.toList t.data.toList k = pstep s.data.toList (pairsTo s.data.toList t.data.toList (k - 1)) (t[k - 1]'(by omega)) (t[k]'hk) := by
  obtain ⟨m, rfl⟩ : ∃ m, k = m + 1 := ⟨k - 1, by omega⟩
  have h1 : t.data.toList.getD m 0 = t[m]'(by omega) := getD_of' (byte_of (by omega))
  have h2 : t.data.toList.getD (m + 1) 0 = t[m + 1]'hk := getD_of' (byte_of hk)
  show pstep _ _ (t.data.toList.getD m 0) (t.data.toList.getD (m + 1) 0) = _
  rw [h1, h2]
  rfl
theorem pstep_skip {L : List UInt8} {T : List (List Int)} {x y : UInt8} (h : ¬ (0 ≤ Lib.indexByte L x ∧ 0 ≤ Lib.indexByte L y)) : pstep L T x y = T := by rw [pstep, if_neg h]
theorem pstep_do {L : List UInt8} {T : List (List Int)} {x y : UInt8} {a c : Nat} (ha : Lib.indexByte L x = a) (hc : Lib.indexByte L y = c) : pstep L T x y = bump T a c := by
  rw [pstep, if_pos ⟨by omega, by omega⟩, ha, hc]
  rfl

set_option maxRecDepth 100000 in
set_option maxHeartbeats 3200000 in
theorem cp_impl (s t : ByteArray) (w : World) (n7 : s.size ≤ 7) (h4 : t.size ≤ 4000) :
    Calls Try.prog 43 #[.string s, .string t] w fun e w' => ∃ A c, e = .returned (.slice A s.size c) ∧ OIntSS w' w.heap.size w'.heap.size A s.size (pairsTo s.data.toList t.data.toList (t.size - 1)) ∧ Below w.heap.size w w' := by
  obtain ⟨i0, hi, hz0, hz1, hz2⟩ := info_parts Try.infoIntS
  obtain ⟨j0, hj, hy0, hy1, hy2⟩ := info_parts Try.infoI64
  have hmk := fun W => run_make_many (P := Try.prog) 37 24 i0 _ Try.underlying37 hi hz0 .i64 .i64 s.size (by rw [hz2]; omega) (by omega) W
  have hmk2 := fun W => run_make_many (P := Try.prog) 24 2 j0 _ Try.underlying24 hj hy0 .i64 .i64 s.size (by rw [hy2]; omega) (by omega) W
  rw [hz1] at hmk
  rw [hy1] at hmk2
  have hnl : Hid (s.data.toList.length = s.size) := Lib.hid rfl
  go_enter Try.func43, Try.ntmps43
  go_wp2
  go_loopw [15] (fun i wr => ∃ k : Nat, k ≤ s.size ∧ i = .int .i64 k ∧ ToInv w s.size (List.replicate s.size (List.replicate s.size 0)) k wr) (fun i _ => s.size - (intOf i).toNat)
  case atStart =>
    exact ⟨0, by omega, rfl, [], (fun j => (madeCells #[Value.slice none 0 0] s.size)[j]?.getD undef), rfl, (Below.refl _ w).alloc (Nat.le_refl _) _, made_row _ _ _ _, fun i r hr => by simp at hr, fun i r xs hr => by simp at hr, fun i r p hr => by simp at hr, fun i j r s p q _ hr => by simp at hr⟩
  case round =>
    obtain ⟨k, hk, rfl, hT⟩ := hrel
    by_cases hlt : k < s.size
    · have hnext := Lib.hid (hT.step hlt (show (List.replicate s.size (List.replicate s.size (0 : Int)))[k]? = some _ by rw [List.getElem?_replicate, if_pos hlt]) (below_a1 wr _) (made_zero wr s.size) (by omega))
      obtain ⟨rs, f, _, _, h3, _⟩ := hT
      have h3' := h3.of_block ((below_a1 wr (.cells (madeCells #[.int .i64 0] s.size) 2)).block _ h3.lt)
      have d0 := h3'.cell (i := k) hlt
      have e0 := h3'.frozen k
      clear h3 h3'
      go_wp2
      go_roundw
      case rel => exact ⟨k + 1, by omega, by go_num, hnext.out⟩
      case measure => simp [intOf]; omega
    · obtain rfl : k = s.size := by omega
      have hO := hT.done (by simp)
      have hbw : Below w.heap.size w wr := by obtain ⟨_, _, _, h2, _⟩ := hT; exact h2
      replace hbw := Lib.hid hbw
      rename World => wo
      clear hT hmk hmk2
      have hstart : Hid (OIntSS wo w.heap.size wo.heap.size (some ⟨w.heap.size, 0, none⟩) s.size (pairsTo s.data.toList t.data.toList 0)) := Lib.hid (by
        show OIntSS wo w.heap.size wo.heap.size (some ⟨w.heap.size, 0, none⟩) s.size (List.replicate s.data.toList.length (List.replicate s.data.toList.length 0))
        rw [hnl.out]; exact hO)
      clear hO
      go_wp2
      go_loopw [7] (fun i wq => ∃ m : Nat, 1 ≤ m ∧ m - 1 ≤ t.size - 1 ∧ i = .int .i64 m ∧ OIntSS wq w.heap.size wo.heap.size (some ⟨w.heap.size, 0, none⟩) s.size (pairsTo s.data.toList t.data.toList (m - 1)) ∧ Below w.heap.size w wq ∧ wo.heap.size ≤ wq.heap.size) (fun i _ => t.size + 1 - (intOf i).toNat)
      case atStart => exact ⟨1, by omega, by omega, rfl, hstart.out, hbw.out, Nat.le_refl _⟩
      case round =>
        obtain ⟨m, hm1, hmt, rfl, hO, hbq, hwq⟩ := hrel
        rename World => wq
        by_cases hltm : m < t.size
        · have hnx := Lib.hid (pairsTo_next (s := s) hm1 hltm)
          have hok := pairsTo_ok s.data.toList t.data.toList (m - 1)
          rw [hnl.out] at hok
          have hcx := Lib.hid (fun W => idx_impl8 s (t[m - 1]'(by omega)) W)
          have hcy := Lib.hid (fun W => idx_impl8 s (t[m]'hltm) W)
          have hXl := Lib.hid (fun (o : Nat) (ho : Lib.indexByte s.data.toList (t[m - 1]'(by omega)) = o) => idx_lt ho)
          have hYl := Lib.hid (fun (o : Nat) (ho : Lib.indexByte s.data.toList (t[m]'hltm) = o) => idx_lt ho)
          have hskip := Lib.hid (pstep_skip (L := s.data.toList) (T := pairsTo s.data.toList t.data.toList (m - 1)) (x := t[m - 1]'(by omega)) (y := t[m]'hltm))
          have hdo := Lib.hid (fun (a c : Nat) (ha : Lib.indexByte s.data.toList (t[m - 1]'(by omega)) = a) (hc : Lib.indexByte s.data.toList (t[m]'hltm) = c) => pstep_do (L := s.data.toList) (T := pairsTo s.data.toList t.data.toList (m - 1)) (x := t[m - 1]'(by omega)) (y := t[m]'hltm) (a := a) (c := c) ha hc)
          have hgx := Lib.indexByte_ge s.data.toList (t[m - 1]'(by omega))
          have hgy := Lib.indexByte_ge s.data.toList (t[m]'hltm)
          generalize hTT : pairsTo s.data.toList t.data.toList (m - 1) = TT at *
          replace hTT := Lib.hid hTT
          generalize hX : Lib.indexByte s.data.toList (t[m - 1]'(by omega)) = X at *
          generalize hY : Lib.indexByte s.data.toList (t[m]'hltm) = Y at *
          replace hX := Lib.hid hX
          replace hY := Lib.hid hY
          have k0 : (0 : Int) ≤ (m : Int) := Int.natCast_nonneg _
          have k1 : (m : Int) < (t.size : Int) := by omega
          have k2 : (0 : Int) ≤ (m : Int) - 1 := by omega
          have k3 : (m : Int) - 1 < (t.size : Int) := by omega
          have k4 : (1 : Int) ≤ (m : Int) := by omega
          have q1 : ((m : Int) - 1).toNat = m - 1 := by omega
          have s1 : IntKind.i64.wrap ((m : Int) - 1) = (m : Int) - 1 := IntWalk.i64_in _ (by omega)
          have hmm : Hid (m + 1 - 1 = m) := Lib.hid (by omega)
          by_cases hx0 : 0 ≤ X
          · have ex : decide (0 ≤ X) = true := decide_eq_true hx0
            by_cases hy0 : 0 ≤ Y
            · have ey : decide (0 ≤ Y) = true := decide_eq_true hy0
              obtain ⟨a, rfl⟩ : ∃ a : Nat, X = a := ⟨X.toNat, by omega⟩
              obtain ⟨c, rfl⟩ : ∃ c : Nat, Y = c := ⟨Y.toNat, by omega⟩
              have ha := hXl.out a rfl
              have hc := hYl.out c rfl
              rw [hnl.out] at ha hc
              have hbump : Hid (pairsTo s.data.toList t.data.toList m = bump TT a c) := Lib.hid (by rw [hnx.out, hdo.out a c rfl rfl])
              obtain ⟨g, hb, cc, z, hA, hne, hlo, hglt, hblt, c0, d0, e0, z0, z1, hO2, hsame⟩ := hO.raise hok ha hc
              cases hA
              clear hx0 hy0 hskip hdo hXl hYl hnx hok hgx hgy ex ey
              have a0 : (0 : Int) ≤ (a : Int) := Int.natCast_nonneg _
              have a1 : (a : Int) < (s.size : Int) := by omega
              have b0 : (0 : Int) ≤ (c : Int) := Int.natCast_nonneg _
              have b1 : (c : Int) < (s.size : Int) := by omega
              by_cases hz : z < 1000
              · have ez : decide (z < 1000) = true := decide_eq_true hz
                have hmin : min 1000 (z + 1) = z + 1 := by omega
                rw [hmin] at hO2
                have hO3 : Hid (OIntSS (wq.setCell ⟨hb, c, none⟩ (.int .i64 (z + 1))) w.heap.size wo.heap.size (some ⟨w.heap.size, 0, none⟩) s.size (pairsTo s.data.toList t.data.toList (m + 1 - 1))) := Lib.hid (by rw [hmm.out, hbump.out]; exact hO2)
                have hbq3 := Lib.hid (hbq.setCell (p := ⟨hb, c, none⟩) hlo (.int .i64 (z + 1)))
                have hwq3 : Hid (wo.heap.size ≤ (wq.setCell ⟨hb, c, none⟩ (.int .i64 (z + 1))).heap.size) := Lib.hid (by simpa [World.setCell] using hwq)
                clear hO2 hmin hsame hO
                go_wp2_with fail
                go_quiet ((first | (go_at_call 62; refine quiet_l (hcx.out _)) | (go_at_call 62; refine quiet_l (hcy.out _))))
                clear s1
                go_wp2
                go_roundw
                case rel => exact ⟨m + 1, by omega, by omega, by go_num, hO3.out, below_drewN hbq3.out _, hwq3.out⟩
                case measure => simp [intOf]; omega
              · have ez : decide (z < 1000) = false := decide_eq_false hz
                have hO3 : Hid (OIntSS wq w.heap.size wo.heap.size (some ⟨w.heap.size, 0, none⟩) s.size (pairsTo s.data.toList t.data.toList (m + 1 - 1))) := Lib.hid (by rw [hmm.out, hbump.out, hsame (by omega)]; exact hO)
                clear hO2 hsame hO
                go_wp2_with fail
                go_quiet ((first | (go_at_call 62; refine quiet_l (hcx.out _)) | (go_at_call 62; refine quiet_l (hcy.out _))))
                clear s1
                go_wp2
                go_roundw
                case rel => exact ⟨m + 1, by omega, by omega, by go_num, hO3.out, below_drewN hbq _, hwq⟩
                case measure => simp [intOf]; omega
            · have ey : decide (0 ≤ Y) = false := decide_eq_false hy0
              have hO3 : Hid (OIntSS wq w.heap.size wo.heap.size (some ⟨w.heap.size, 0, none⟩) s.size (pairsTo s.data.toList t.data.toList (m + 1 - 1))) := Lib.hid (by rw [hmm.out, hnx.out, hskip.out (fun h => hy0 h.2)]; exact hO)
              clear hO hskip hdo hXl hYl hnx hok hx0 hy0
              go_wp2_with fail
              go_quiet ((first | (go_at_call 62; refine quiet_l (hcx.out _)) | (go_at_call 62; refine quiet_l (hcy.out _))))
              clear s1
              go_wp2
              go_roundw
              case rel => exact ⟨m + 1, by omega, by omega, by go_num, hO3.out, below_drewN hbq _, hwq⟩
              case measure => simp [intOf]; omega
          · have ex : decide (0 ≤ X) = false := decide_eq_false hx0
            have hO3 : Hid (OIntSS wq w.heap.size wo.heap.size (some ⟨w.heap.size, 0, none⟩) s.size (pairsTo s.data.toList t.data.toList (m + 1 - 1))) := Lib.hid (by rw [hmm.out, hnx.out, hskip.out (fun h => hx0 h.1)]; exact hO)
            clear hO hskip hdo hXl hYl hnx hok hx0
            go_wp2_with fail
            go_quiet ((first | (go_at_call 62; refine quiet_l (hcx.out _)) | (go_at_call 62; refine quiet_l (hcy.out _))))
            clear s1
            go_wp2
            go_roundw
            case rel => exact ⟨m + 1, by omega, by omega, by go_num, hO3.out, below_drewN hbq _, hwq⟩
            case measure => simp [intOf]; omega
        · have hfin : Hid (OIntSS wq w.heap.size wq.heap.size (some ⟨w.heap.size, 0, none⟩) s.size (pairsTo s.data.toList t.data.toList (t.size - 1))) := Lib.hid (by
            have : m - 1 = t.size - 1 := by omega
            rw [← this]
            exact hO.mono hwq)
          clear hO
          go_wp2
          go_ret
          exact ⟨_, _, rfl, hfin.out, hbq⟩

set_option maxHeartbeats 800000 in
theorem ps_impl (s t : ByteArray) (w : World) (hs : s.size ≤ 1048576) (ht : t.size ≤ 1048576) :
    Calls Try.prog 23 #[.string s, .string t] w (PsOut (pairsOf s t (bytesIn 32 126 s)) w) := by
  generalize hr : pairsOf s t (bytesIn 32 126 s) = r
  replace hr := Lib.hid hr.symm
  cases h1 : alphaB s (bytesIn 32 126 s) with
  | false =>
    have hres : Hid (r = ([], 2)) := Lib.hid (by rw [hr.out]; simp [pairsOf, h1])
    have hc1 := Lib.hid (alpha_impl s h1 w hs)
    clear h1 hr
    go_enter Try.func23, Try.ntmps23
    go_wp2_with fail
    refine (hc1.out).mono ?_
    rintro e w1 ⟨rfl, rfl⟩
    go_wp2
    go_ret2
    exact PsOut.bad hres.out (Below.refl _ _)
  | true =>
    have hc1 := Lib.hid (alpha_impl s h1 w hs)
    by_cases h4 : t.size ≤ 4000
    · have hres : Hid (r = (pairsTo s.data.toList t.data.toList (t.size - 1), 0)) := Lib.hid (by rw [hr.out]; simp [pairsOf, h1, h4])
      have g1 : decide ((4000 : Int) < (t.size : Int)) = false := decide_eq_false (by omega)
      have h2 := h1
      simp only [alphaB, Bool.and_eq_true, decide_eq_true_eq] at h2
      obtain ⟨n2, ⟨n7, _⟩, _⟩ := h2
      have hcp := Lib.hid (cp_impl s t w (by omega) h4)
      have hn7 : Hid (s.size ≤ 1048576) := Lib.hid hs
      clear h1 hr
      go_enter Try.func23, Try.ntmps23
      go_wp2_with fail
      refine (hc1.out).mono ?_
      rintro e w1 ⟨rfl, rfl⟩
      go_wp2_with fail
      refine (hcp.out).mono ?_
      rintro e w2 ⟨A', c', rfl, hO, hb⟩
      replace hO := Lib.hid hO
      go_wp2
      go_ret2
      exact ⟨_, s.size, _, by rw [hres.out]; rfl, hn7.out, by rw [hres.out]; exact hO.out, hb⟩
    · have hres : Hid (r = ([], 2)) := Lib.hid (by rw [hr.out]; simp [pairsOf, h4])
      have g1 : decide ((4000 : Int) < (t.size : Int)) = true := decide_eq_true (by omega)
      clear h1 hr
      go_enter Try.func23, Try.ntmps23
      go_wp2_with fail
      refine (hc1.out).mono ?_
      rintro e w1 ⟨rfl, rfl⟩
      go_wp2
      go_ret2
      exact PsOut.bad hres.out (Below.refl _ _)
end Go.Proofs.Ytgiphckiiapcaaa
