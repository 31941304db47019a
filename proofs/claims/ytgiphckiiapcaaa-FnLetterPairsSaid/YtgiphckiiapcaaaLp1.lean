/- The law on pairs of letters as one call: for every input it returns true. -/
import Derived.Test.YtgiphckiiapcaaaLp0
import Derived.Test.YtgiphckiiapcaaaPair3
import Derived.Test.YtgiphckiiapcaaaArrC
namespace Go.Proofs.Ytgiphckiiapcaaa
open Go.RowKit
set_option linter.unusedVariables false
set_option linter.unusedSimpArgs false

theorem a2sum_any (A : Option Addr) (n c : Nat) (xs : List Int) (w : World) (h : Ints w A n xs) (hn : n ≤ 1000) (hb : ∀ (k : Nat) (x : Int), xs[k]? = some x → 0 ≤ x ∧ x ≤ 1000) :
    Calls Try.prog 25 #[.slice A n c] w fun e w' => e = .returned (.int .i64 xs.sum) ∧ w = w' := by
  have hsl := Lib.hid (sum_le hb)
  have hb' := Lib.hid hb
  clear hb
  go_enter Try.func25, Try.ntmps25
  go_wp2
  go_loopw [3, 4] (fun t i wr => ∃ k : Nat, k ≤ n ∧ i = .int .i64 k ∧ t = .int .i64 (xs.take k).sum ∧ w = wr) (fun _ i _ => n - (intOf i).toNat)
  case atStart => exact ⟨0, by omega, rfl, rfl, rfl⟩
  case round =>
    obtain ⟨k, hk, rfl, rfl, rfl⟩ := hrel
    by_cases hlt : k < n
    · obtain ⟨b, off, x, rfl, hb, hx, c0⟩ := int_at h hlt
      have hk0 : (0 : Int) ≤ (k : Int) := Int.natCast_nonneg _
      have hk1 : (k : Int) < (n : Int) := by omega
      obtain ⟨s0, s1⟩ := hsl.out k
      obtain ⟨x0, x1⟩ := hb'.out k x hx.out
      have hnx := Lib.hid (sum_take1 hx.out)
      generalize (xs.take k).sum = S at *
      have s2 : S + x ≤ 10000000 := by omega
      have s3 : 0 ≤ S + x := by omega
      go_wp2
      go_roundw
      case rel => exact ⟨k + 1, by omega, by go_num, by rw [hnx.out], by trivial⟩
      case measure => simp [intOf]; omega
    · obtain rfl : k = n := by omega
      rw [List.take_of_length_le (by rw [h.1]; omega)]
      go_wp2
      go_ret
      exact ⟨rfl, rfl⟩
theorem a2long_one (A0 : Option Addr) (n0 c0 : Nat) (w : World) (hn : n0 ≤ maxLen) :
    Calls Try.prog 21 #[.slice A0 n0 c0, .slice none 0 0] w fun e w' => e = .returned (.bool (decide (3000 < n0))) ∧ w = w' := by
  unfold maxLen at hn
  by_cases h : 3000 < n0
  · have hr : Hid (decide (3000 < n0) = true) := Lib.hid (decide_eq_true h)
    have g : decide ((3000 : Int) < (n0 : Int)) = true := decide_eq_true (by omega)
    go_enter Try.func21, Try.ntmps21
    go_wp2
    go_ret
    exact ⟨by rw [hr.out]; rfl, rfl⟩
  · have hr : Hid (decide (3000 < n0) = false) := Lib.hid (decide_eq_false h)
    have g : decide ((3000 : Int) < (n0 : Int)) = false := decide_eq_false (by omega)
    go_enter Try.func21, Try.ntmps21
    go_wp2
    go_ret
    exact ⟨by rw [hr.out]; rfl, rfl⟩
def LyOut (w : World) (e : Ending) (w' : World) : Prop :=
  ∃ (L t : ByteArray), e = .returned (.tuple #[.string L, .string t]) ∧ L ∈ lay5 ∧ t.size ≤ 19 ∧ (∀ c ∈ t.data.toList, c ∈ L.data.toList) ∧ Below w.heap.size w w'
theorem a2layout_any (A : Option Addr) (n c : Nat) (xs : List Int) (w : World) (hn : n ≤ maxLen) (h : Bytes w A n xs) (hg : ∀ x ∈ xs, byteGood x) :
    Calls Try.prog 22 #[.slice A n c, .int .i64 5] w (LyOut w) := by
  have hfr := Lib.hid (from_any A n c xs w hn h hg)
  clear h hg
  go_enter Try.func22, Try.ntmps22
  go_wp2_with fail
  refine (hfr.out).mono ?_
  rintro e w1 ⟨rfl, hs1, hb1⟩
  have hlt := hs1.lt
  have hll := Lib.hid (l07letters_any w.heap.size 0 w1 hs1 (by omega))
  clear hs1
  go_wp2_with fail
  refine (hll.out).mono ?_
  rintro e w2 ⟨L, l, rfl, hL, hl, hm, hD⟩
  have hbel : Hid (Below w.heap.size w w2) := Lib.hid ⟨hD.os.trans hb1.os, hD.tape.trans hb1.tape, hD.output.trans hb1.output, Nat.le_trans hb1.size hD.size, fun k hk => (hD.block k (by omega) (by omega)).trans (hb1.block k hk)⟩
  clear hb1 hD
  go_wp2
  go_ret2
  exact ⟨L, _, rfl, hL, hl, by simpa using hm, hbel.out⟩

theorem cntTo_next {L : ByteArray} (hL : L ∈ lay5) {t : ByteArray} (ht : ∀ c ∈ t.data.toList, c ∈ L.data.toList) {m : Nat} (hm1 : 1 ≤ m) (hm : m < t.size) :
    cntTo (L.extract 0 4).data.toList t.data.toList m = cntTo (L.extract 0 4).data.toList t.data.toList (m - 1) + if t[m]'hm ≠ L[4]'(by rw [lay5_size hL]; decide) ∧ t[m - 1]'(by omega) ≠ L[4]'(by rw [lay5_size hL]; decide) then 1 else 0 := by
  obtain ⟨k, rfl⟩ : ∃ k, m = k + 1 := ⟨m - 1, by omega⟩
  have h1 : t.data.toList.getD k 0 = t[k]'(by omega) := getD_of' (byte_of (by omega))
  have h2 : t.data.toList.getD (k + 1) 0 = t[k + 1]'hm := getD_of' (byte_of hm)
  have k1 := known_iff hL (ht _ (List.mem_of_getElem? (byte_of (show k < t.size by omega))))
  have k2 := known_iff hL (ht _ (List.mem_of_getElem? (byte_of hm)))
  rw [cntTo, h1, h2]
  show _ = cntTo _ _ k + _
  congr 1
  by_cases a : t[k + 1]'hm ≠ L[4]'(by rw [lay5_size hL]; decide)
  · by_cases b : t[k]'(by omega) ≠ L[4]'(by rw [lay5_size hL]; decide)
    · rw [if_pos ⟨k1.2 b, k2.2 a⟩, if_pos ⟨a, b⟩]
    · rw [if_neg (fun h => b (k1.1 h.1)), if_neg (fun h => b h.2)]
  · rw [if_neg (fun h => a (k2.1 h.2)), if_neg (fun h => a h.1)]
theorem u8_eq4 {a b : UInt8} (h : a = b) : ((a.toNat : Int) == (b.toNat : Int)) = true ∧ (a.toNat == b.toNat) = true ∧ ((a.toNat : Int) != (b.toNat : Int)) = false ∧ (a.toNat != b.toNat) = false := by subst h; simp
theorem u8_ne4 {a b : UInt8} (h : a ≠ b) : ((a.toNat : Int) == (b.toNat : Int)) = false ∧ (a.toNat == b.toNat) = false ∧ ((a.toNat : Int) != (b.toNat : Int)) = true ∧ (a.toNat != b.toNat) = true := by
  obtain ⟨h1, h2⟩ := u8_ne h
  exact ⟨h1, h2, by simp only [bne, h1]; rfl, by simp only [bne, h2]; rfl⟩

set_option maxRecDepth 100000 in
set_option maxHeartbeats 6400000 in
theorem fnLetterPairs_any (A0 : Option Addr) (n0 c0 : Nat) (xs0 : List Int) (w : World) (h0 : n0 ≤ maxLen ∧ Bytes w A0 n0 xs0 ∧ ∀ x ∈ xs0, byteGood x) :
    Calls Try.prog 4 #[.slice A0 n0 c0] w fun e w' => e = .returned (.bool true) ∧ Below w.heap.size w w' := by
  obtain ⟨hm0, P0, hg0⟩ := h0
  have hlong := Lib.hid (a2long_one A0 n0 c0 w hm0)
  have hly := Lib.hid (a2layout_any A0 n0 c0 xs0 w hm0 P0 hg0)
  clear P0 hg0
  by_cases hbig : 3000 < n0
  · rw [decide_eq_true hbig] at hlong
    clear hbig
    go_enter Try.func4, Try.ntmps4
    go_wp2_with fail
    refine hlong.out.mono ?_
    rintro e w' ⟨rfl, rfl⟩
    go_wp2
    go_ret
    exact ⟨rfl, Below.refl _ _⟩
  · rw [decide_eq_false hbig] at hlong
    clear hbig
    go_enter Try.func4, Try.ntmps4
    go_wp2_with fail
    refine hlong.out.mono ?_
    rintro e w' ⟨rfl, rfl⟩
    go_wp2_with fail
    refine hly.out.mono ?_
    rintro e w1 ⟨L, t, rfl, hL, htn, hmem, hb1⟩
    obtain ⟨hal, h4⟩ := lay5_alpha hL
    have hL5 := lay5_size hL
    have hLz : (4 : Int) < (L.size : Int) := by omega
    have hLz' : (4 : Int) ≤ (L.size : Int) := by omega
    have hps := ps_impl (L.extract 0 4) t w1 (by omega) (by omega)
    have hpv : pairsOf (L.extract 0 4) t (bytesIn 32 126 (L.extract 0 4)) = (pairsTo (L.extract 0 4).data.toList t.data.toList (t.size - 1), 0) := by
      rw [pairsOf, hal, decide_eq_true (by omega : t.size ≤ 4000)]
      rfl
    rw [hpv] at hps
    have hok := pairsTo_ok (L.extract 0 4).data.toList t.data.toList (t.size - 1)
    have hll : (L.extract 0 4).data.toList.length = 4 := h4
    rw [hll] at hok
    have hsum := (pairsTo_sum (L.extract 0 4).data.toList t.data.toList (t.size - 1) (by omega)).1
    have hcr := Lib.hid (cntTo_range (L.extract 0 4).data.toList t.data.toList)
    have hnext := Lib.hid (fun (m : Nat) (hm1 : 1 ≤ m) (hm : m < t.size) => cntTo_next hL hmem hm1 hm)
    replace hps := Lib.hid hps
    replace hsum := Lib.hid hsum
    replace hL5 := Lib.hid hL5
    clear hpv hal h4 hll hmem
    generalize hT : pairsTo (L.extract 0 4).data.toList t.data.toList (t.size - 1) = T at *
    replace hT := Lib.hid hT
    go_wp2_with fail
    refine hps.out.mono ?_
    rintro e w2 ⟨A, n, c, rfl, hn, hO, hb2⟩
    have hS := hO.srow
    have hn4 : n = 4 := by rw [← hS.len]; exact hok.1
    subst hn4
    have hbel := Lib.hid (hb1.step hb2)
    have hpk : pairsOk T = true := pairsOk_iff.2 ⟨by rw [hok.1]; omega, fun i xs hx => by rw [hok.1]; exact hok.2 i xs hx⟩
    have hvp := Lib.hid (vp_spec A 4 c T w2 hS (by omega) (fun xs hxs x hx => by
      obtain ⟨i, hi, rfl⟩ := List.getElem_of_mem hxs
      obtain ⟨k, hk, rfl⟩ := List.getElem_of_mem hx
      have := (hok.2 i _ (List.getElem?_eq_getElem hi)).2 k _ (List.getElem?_eq_getElem hk)
      simp [intGood, Lit.wf, IntKind.min, IntKind.max, IntKind.signed, IntKind.bits]
      omega))
    rw [hpk] at hvp
    have hrow := Lib.hid hok.2
    have hlen := Lib.hid hok.1
    clear hO hb1 hb2 hpk hok
    go_wp2_with fail
    refine hvp.out.mono ?_
    rintro e w3 ⟨rfl, hb3⟩
    have hS3 := hS.below hb3
    have hbel3 := Lib.hid (hbel.out.step hb3)
    have hsb : Hid (∀ k : Nat, 0 ≤ sumT (T.take k) ∧ sumT (T.take k) ≤ k * 4000) := Lib.hid fun k => by
      induction k with
      | zero => simp [sumT]
      | succ k ih =>
        cases hx : T[k]? with
        | none =>
          have h2 : T.length ≤ k := List.getElem?_eq_none_iff.1 hx
          rw [List.take_of_length_le (by omega)] at ih ⊢
          omega
        | some xs =>
          obtain ⟨r1, r2⟩ := hrow.out k xs hx
          have h3 := sum_le r2 4
          rw [List.take_of_length_le (by omega)] at h3
          rw [sum_take hx]
          omega
    have hend : Hid (sumT (T.take 4) = cntTo (L.extract 0 4).data.toList t.data.toList (t.size - 1)) := Lib.hid (by rw [List.take_of_length_le (by rw [hlen.out]; omega), hsum.out])
    clear hS hb3
    go_wp2
    go_loopw [7, 8] (fun s i wr => ∃ k : Nat, k ≤ 4 ∧ i = .int .i64 k ∧ s = .int .i64 (sumT (T.take k)) ∧ w3 = wr) (fun _ i _ => 4 - (intOf i).toNat)
    case atStart => exact ⟨0, by omega, rfl, rfl, rfl⟩
    case round =>
      obtain ⟨k, hk, rfl, rfl, rfl⟩ := hrel
      by_cases hlt : k < 4
      · obtain ⟨ba, oa, R, m, cc, xs, rfl, hb, hx, f0, hI, hm⟩ := iss_at hS3 hlt
        obtain ⟨r1, r2⟩ := hrow.out k xs hx.out
        have hm4 : m = 4 := by rw [← r1]; exact hI.1.symm
        have hk0 : (0 : Int) ≤ (k : Int) := Int.natCast_nonneg _
        have hk1 : (k : Int) < 4 := by omega
        have hc := Lib.hid (a2sum_any R m cc xs w3 hI (by omega) r2)
        have hnx := Lib.hid (sum_take hx.out)
        obtain ⟨s0, s1⟩ := hsb.out k
        obtain ⟨s2, s3⟩ := hsb.out (k + 1)
        rw [hnx.out] at s2 s3
        generalize sumT (T.take k) = S at *
        generalize xs.sum = X at *
        have s4 : S + X ≤ 100000 := by omega
        have s5 : ((k + 1 : Nat) : Int) ≤ 4 := by omega
        clear hm4 s3 r1 r2
        go_wp2_with fail
        refine (hc.out).mono ?_
        rintro e w5 ⟨rfl, rfl⟩
        go_wp2
        go_roundw
        case rel => exact ⟨k + 1, by omega, by go_num, by rw [hnx.out], by trivial⟩
        case measure => simp [intOf]; omega
      · obtain rfl : k = 4 := by omega
        rw [hend.out]
        have hbel4 := Lib.hid hbel3.out
        go_wp2
        go_loopw [9, 10] (fun s i wr => ∃ m : Nat, 1 ≤ m ∧ m - 1 ≤ t.size - 1 ∧ i = .int .i64 m ∧ s = .int .i64 (cntTo (L.extract 0 4).data.toList t.data.toList (m - 1)) ∧ Below w.heap.size w wr) (fun _ i _ => t.size + 1 - (intOf i).toNat)
        case atStart => exact ⟨1, by omega, by omega, rfl, rfl, hbel4.out⟩
        case round =>
          obtain ⟨m, hm1, hmt, rfl, rfl, hbw⟩ := hrel
          by_cases hltm : m < t.size
          · have hnx := Lib.hid (hnext.out m hm1 hltm)
            obtain ⟨v0, v1⟩ := hcr.out (m - 1)
            generalize cntTo (L.extract 0 4).data.toList t.data.toList (m - 1) = C at *
            have k0 : (0 : Int) ≤ (m : Int) := Int.natCast_nonneg _
            have k1 : (m : Int) < (t.size : Int) := by omega
            have k2 : (0 : Int) ≤ (m : Int) - 1 := by omega
            have k3 : (m : Int) - 1 < (t.size : Int) := by omega
            have k4 : (1 : Int) ≤ (m : Int) := by omega
            have q1 : ((m : Int) - 1).toNat = m - 1 := by omega
            have s1 : IntKind.i64.wrap ((m : Int) - 1) = (m : Int) - 1 := IntWalk.i64_in _ (by omega)
            have hmm : Hid (m + 1 - 1 = m) := Lib.hid (by omega)
            have hC : C + 1 ≤ 1000000 := by omega
            by_cases ha : t[m]'hltm = L[4]'(by have := hL5.out; omega)
            · have hn2 : Hid (cntTo (L.extract 0 4).data.toList t.data.toList (m + 1 - 1) = C) := Lib.hid (by rw [hmm.out, hnx.out, if_neg (fun h => h.1 ha)]; omega)
              obtain ⟨e1, e2, e3, e4⟩ := u8_eq4 ha
              clear ha hnx
              go_wp2_with fail
              go_quiet (fail)
              clear s1
              go_wp2
              go_roundw
              case rel => exact ⟨m + 1, by omega, by omega, by go_num, by rw [hn2.out], below_drewN hbw _⟩
              case measure => simp [intOf]; omega
            · by_cases hbq : t[m - 1]'(by omega) = L[4]'(by have := hL5.out; omega)
              · have hn2 : Hid (cntTo (L.extract 0 4).data.toList t.data.toList (m + 1 - 1) = C) := Lib.hid (by rw [hmm.out, hnx.out, if_neg (fun h => h.2 hbq)]; omega)
                obtain ⟨e1, e2, e3, e4⟩ := u8_ne4 ha
                obtain ⟨e5, e6, e7, e8⟩ := u8_eq4 hbq
                clear ha hnx hbq
                go_wp2_with fail
                go_quiet (fail)
                clear e5 e6 e7 e8 s1
                go_wp2
                go_roundw
                case rel => exact ⟨m + 1, by omega, by omega, by go_num, by rw [hn2.out], below_drewN hbw _⟩
                case measure => simp [intOf]; omega
              · have hn2 : Hid (cntTo (L.extract 0 4).data.toList t.data.toList (m + 1 - 1) = C + 1) := Lib.hid (by rw [hmm.out, hnx.out, if_pos ⟨ha, hbq⟩])
                obtain ⟨e1, e2, e3, e4⟩ := u8_ne4 ha
                obtain ⟨e5, e6, e7, e8⟩ := u8_ne4 hbq
                clear ha hnx hbq
                go_wp2_with fail
                go_quiet (fail)
                clear e5 e6 e7 e8 s1
                go_wp2
                go_roundw
                case rel => exact ⟨m + 1, by omega, by omega, by go_num, by rw [hn2.out], below_drewN hbw _⟩
                case measure => simp [intOf]; omega
          · have hmq : m - 1 = t.size - 1 := by omega
            rw [hmq]
            clear hmq
            go_wp2
            go_ret
            exact ⟨rfl, hbw⟩
end Go.Proofs.Ytgiphckiiapcaaa
