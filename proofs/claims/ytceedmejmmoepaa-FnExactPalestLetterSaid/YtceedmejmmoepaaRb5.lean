/- Ribbons: the model's UsesOf. -/
import Derived.Test.YtceedmejmmoepaaRb4
import Derived.Test.YtceedmejmmoepaaByt
import Derived.Test.YtceedmejmmoepaaOIn
namespace Go.Proofs.Ytceedmejmmoepaa
open Go.RowKit Go.ChangeShapes Go.WideShapes Go.Deep
set_option linter.unusedVariables false
set_option linter.unusedSimpArgs false

def usesL (S n k : Nat) : List Int := (List.range k).map fun p => (useN S p n : Int)
theorem usesL_next (S n k : Nat) : usesL S n (k + 1) = usesL S n k ++ [(useN S k n : Int)] := by
  rw [usesL, List.range_succ, List.map_append, usesL]; rfl
theorem usesL_len (S n k : Nat) : (usesL S n k).length = k := by simp [usesL]
def uoR (r : RibbonD) (n : Int) : List Int × Int := if rcC r n = 0 then (usesL r.spots.toNat n.toNat r.spots.toNat, 0) else ([], rcC r n)
set_option maxRecDepth 100000 in
set_option maxHeartbeats 2400000 in
theorem uo14_spec (r : RibbonD) (n : Int) (w : World) (hg : r.good) (hwf : (Lit.int .i64 n).wf = true) :
    Calls Try.prog 16 #[.agg #[.int .i64 r.spots, .int .i64 r.ink, .int .i64 r.takes], .int .i64 n] w (IOut (uoR r n) w) := by
  clear hg hwf
  generalize hr : uoR r n = q
  replace hr := Lib.hid hr.symm
  have hc := Lib.hid (fun v h W => code14 r n (v := v) h W)
  by_cases h1 : rcC r n = 0
  · obtain ⟨hok, h0, h2⟩ := rcC_ok h1
    obtain ⟨⟨c0, c1⟩, _⟩ := rbB_iff.1 hok
    have hres : Hid (q = (usesL r.spots.toNat n.toNat r.spots.toNat, 0)) := Lib.hid (by rw [hr.out, uoR, if_pos h1])
    have hc1 := Lib.hid (fun W => hc.out _ h1 W)
    have hbf := Lib.hid (fun (p : Nat) (hp : p < r.spots.toNat) W => bef14 r hok n.toNat p (by omega) hp rfl W)
    rw [show ((n.toNat : Nat) : Int) = n from Int.toNat_of_nonneg h0] at hbf
    obtain ⟨N, hN⟩ : ∃ N, n.toNat = N := ⟨_, rfl⟩
    rw [hN] at hres hbf
    clear h1 hr hc hok h0 h2 hN
    obtain ⟨S0, I, K⟩ := r
    simp only at *
    obtain ⟨S, rfl⟩ : ∃ S : Nat, S0 = (S : Int) := ⟨S0.toNat, by omega⟩
    rw [Int.toNat_natCast] at *
    obtain ⟨i0, hi, hz0, hz1, hz2⟩ := info_parts Try.infoI64
    go_enter Try.func16, Try.ntmps16
    go_wp2_with fail
    refine (hc1.out _).mono ?_
    rintro e w1 ⟨rfl, hb1⟩
    have hbox := Lib.hid ((Box3r.new w _ (.int .i64 (S : Int)) (.int .i64 I) (.int .i64 K)).step hb1)
    replace hb1 := Lib.hid ((below_a1 w _).step hb1)
    have hww := hb1.out.size
    obtain ⟨q0, q1, q2⟩ := hbox.out
    go_wp2
    go_loopw [7, 8] (fun o i wr => ∃ k : Nat, k ≤ S ∧ i = .int .i64 (k : Int) ∧ Below w1.heap.size w1 wr ∧ wr.ownsRow w1.heap.size 2 1 o k ((usesL S N k).flatMap intC)) (fun _ i _ => S - (intOf i).toNat)
    case atStart => exact ⟨0, by omega, rfl, below_a1 _ _, owns_new8 w1 _⟩
    case round =>
      rename World => wr
      obtain ⟨k, hk, rfl, hbw, hrow⟩ := hrel
      have hwz := hbw.size
      clear q0 q1 q2
      obtain ⟨q0, q1, q2⟩ := hbox.out.step hbw
      replace hrow := Lib.hid hrow
      by_cases hlt : k < S
      · have g1 : decide ((k : Int) < (S : Int)) = true := decide_eq_true (by omega)
        have hwk : IntKind.i64.wrap ((k : Int) + 1) = ((k + 1 : Nat) : Int) := by rw [IntWalk.i64_in _ (by omega)]; omega
        have hp := Lib.hid (usesL_next S N k)
        have hc2 := Lib.hid (fun W => hbf.out k hlt W)
        generalize useN S k N = u at *
        go_wp2_with fail
        refine (hc2.out _).mono ?_
        rintro e w2 ⟨rfl, hb2⟩
        have hrl := Lib.hid (own_keep10 hrow.out hb2)
        have hbx := Lib.hid (hbw.step hb2)
        have hw2z := hbx.out.size
        clear hb2
        go_wp2_with (at_builtin; refine wpList_append_own _ rfl _ _ 31 rfl w1.heap.size 2 i0 _ 1 8 Try.underlying31 hi hz0 hz1 hz2 rfl (by decide) _ _ _ rfl (hrl.out.alloc _) ⟨w2.heap.size, 0, none⟩ 1 1 [.int .i64 (u : Int)] rfl rfl (news8 _ _ _) (one8 _) (by unfold maxLen; omega) (by omega) (by simp; omega) ?_)
        intro vq wq hownq hgrq hnilq
        have hgqq := grown_trans (grown_below (below_a1 w2 _) _) hgrq
        have hfin : Hid (Below w1.heap.size w1 wq ∧ wq.ownsRow w1.heap.size 2 1 vq (k + 1) ((usesL S N (k + 1)).flatMap intC)) := Lib.hid ⟨hbx.out.grown hgqq hw2z (fun j hj => owns_ge8 hrl.out hj), by rw [hp.out, snoc8]; exact hownq⟩
        clear hownq hgrq hnilq hgqq hrl
        go_wp2
        go_roundw
        case rel => exact ⟨k + 1, by omega, by go_num, hfin.out⟩
        case measure => simp [intOf]; omega
      · obtain rfl : k = S := by omega
        have g1 : decide ((k : Int) < (k : Int)) = false := decide_eq_false (by omega)
        obtain ⟨A', c', rfl, hO⟩ := owns_i8 (usesL_len k N k) (own_mono10 hrow.out hww)
        have hO2 := Lib.hid hO
        clear hrow hO
        go_wp2
        go_ret2
        refine ⟨A', k, c', ?_, by omega, by rw [hres.out]; exact hO2.out, hb1.out.trans (hbw.mono hww)⟩
        rw [hres.out]
        rfl
  · have hb : Hid (q = ([], rcC r n)) := Lib.hid (by rw [hr.out, uoR, if_neg h1])
    have hc1 := Lib.hid (fun W => hc.out _ rfl W)
    generalize rcC r n = g at *
    have y1 : (g == 0) = false := beq_eq_false_iff_ne.2 h1
    have y2 : (g != 0) = true := by rw [bne, y1]; rfl
    clear h1 hr hc
    obtain ⟨S, I, K⟩ := r
    go_enter Try.func16, Try.ntmps16
    go_wp2_with fail
    refine (hc1.out _).mono ?_
    rintro e w1 ⟨rfl, hb1⟩
    go_wp2
    go_ret2
    exact IOut.bad hb.out ((below_a1 _ _).step hb1)
end Go.Proofs.Ytceedmejmmoepaa
