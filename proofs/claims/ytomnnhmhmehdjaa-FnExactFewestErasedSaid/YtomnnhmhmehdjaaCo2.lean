/- Corrections: the model's WrongPlaces, ShiftedMatch and WornPlaces. -/
import Derived.Test.YtomnnhmhmehdjaaCo1
namespace Go.Proofs.Ytomnnhmhmehdjaa
open Go.RowKit Go.ChangeShapes Go.WideShapes Go.Deep
set_option linter.unusedVariables false
set_option linter.unusedSimpArgs false

set_option maxHeartbeats 1600000 in
theorem wp12_spec (t s : ByteArray) (w : World) (ht : t.size ≤ 1048576) (hs : s.size ≤ 1048576) :
    Calls Try.prog 41 #[.string t, .string s] w (IOut (wpR t s) w) := by
  generalize hr : wpR t s = r
  replace hr := Lib.hid hr.symm
  have htm : t.size ≤ maxLen := by unfold maxLen; omega
  have hsm : s.size ≤ maxLen := by unfold maxLen; omega
  cases h1 : lineC t with
  | false =>
    have hres : Hid (r = ([], 2)) := Lib.hid (by rw [hr.out, wpR, h1]; rfl)
    have hc := Lib.hid (fun W => line12 t h1 W htm)
    clear hr h1
    go_enter Try.func41, Try.ntmps41
    go_wp2_with fail
    refine (hc.out _).mono ?_
    rintro e w1 ⟨rfl, rfl⟩
    go_wp2
    go_ret2
    exact IOut.bad hres.out (Below.refl _ _)
  | true =>
    have hc := Lib.hid (fun W => line12 t h1 W htm)
    cases h2 : lineC s with
    | false =>
      have hres : Hid (r = ([], 2)) := Lib.hid (by rw [hr.out, wpR, h1, h2]; rfl)
      have hc2 := Lib.hid (fun W => line12 s h2 W hsm)
      clear hr h1 h2
      go_enter Try.func41, Try.ntmps41
      go_wp2_with fail
      refine (hc.out _).mono ?_
      rintro e w1 ⟨rfl, rfl⟩
      go_wp2_with fail
      refine (hc2.out _).mono ?_
      rintro e w1 ⟨rfl, rfl⟩
      go_wp2
      go_ret2
      exact IOut.bad hres.out (Below.refl _ _)
    | true =>
      have hres : Hid (r = (plaL (wrongQ t s) 60, 0)) := Lib.hid (by rw [hr.out, wpR, h1, h2]; rfl)
      have hc2 := Lib.hid (fun W => line12 s h2 W hsm)
      obtain ⟨i0, hi, hz0, hz1, hz2⟩ := info_parts Try.infoI64
      clear hr h1 h2
      go_enter Try.func41, Try.ntmps41
      go_wp2_with fail
      refine (hc.out _).mono ?_
      rintro e w1 ⟨rfl, rfl⟩
      go_wp2_with fail
      refine (hc2.out _).mono ?_
      rintro e w1 ⟨rfl, rfl⟩
      go_wp2
      go_loopw [6, 7] (fun o a wr => ∃ k m : Nat, k ≤ 60 ∧ m ≤ k ∧ a = .int .i64 (k : Int) ∧ (plaL (wrongQ t s) k).length = m ∧ Below w.heap.size w wr ∧ wr.ownsRow w.heap.size 2 1 o m ((plaL (wrongQ t s) k).flatMap intC)) (fun _ a _ => 60 - (intOf a).toNat)
      case atStart => exact ⟨0, 0, by omega, by omega, rfl, rfl, below_a1 _ _, owns_new8 w _⟩
      case round =>
        rename World => wr
        obtain ⟨k, m, hk, hm, rfl, hlen, hbw, hrow⟩ := hrel
        have hwz := hbw.size
        by_cases hlt : k < 60
        · have g1 : (k : Int) < 60 := by omega
          have hc1 := Lib.hid (fun W => at12 t (k : Int) rfl W ht)
          have hc3 := Lib.hid (fun W => at12 s (k : Int) rfl W hs)
          have hnx := Lib.hid (plaL_next (wrongQ t s) k)
          have hQ := Lib.hid (show wrongQ t s k = !decide ((atL t (k : Int)).toNat = (atL s (k : Int)).toNat) from rfl)
          have hrl := Lib.hid hrow
          replace hlen := Lib.hid hlen
          clear hrow
          generalize atL t (k : Int) = p at *
          generalize atL s (k : Int) = q at *
          have hw1 : IntKind.i64.wrap ((k : Int) + 1) = ((k + 1 : Nat) : Int) := by rw [IntWalk.i64_in _ (by omega)]; omega
          by_cases hpq : p.toNat = q.toNat
          · have y1 : ((p.toNat : Int) == (q.toNat : Int)) = true := beq_iff_eq.2 (by omega)
            have y2 : ((p.toNat : Int) != (q.toNat : Int)) = false := by rw [bne, y1]; rfl
            have y3 : (p.toNat == q.toNat) = true := beq_iff_eq.2 hpq
            have hq : Hid (plaL (wrongQ t s) (k + 1) = plaL (wrongQ t s) k) := Lib.hid (by rw [hnx.out, hQ.out, decide_eq_true hpq]; simp)
            clear hnx hQ hpq
            go_wp2_with fail
            refine (hc1.out _).mono ?_
            rintro e w1 ⟨rfl, rfl⟩
            go_wp2_with fail
            refine (hc3.out _).mono ?_
            rintro e w1 ⟨rfl, rfl⟩
            go_wp2
            go_roundw
            case rel => exact ⟨k + 1, m, by omega, by omega, by go_num, by rw [hq.out]; exact hlen.out, hbw, by rw [hq.out]; exact hrl.out⟩
            case measure => simp [intOf]; omega
          · have y1 : ((p.toNat : Int) == (q.toNat : Int)) = false := beq_eq_false_iff_ne.2 (by omega)
            have y2 : ((p.toNat : Int) != (q.toNat : Int)) = true := by rw [bne, y1]; rfl
            have y3 : (p.toNat == q.toNat) = false := beq_eq_false_iff_ne.2 hpq
            have hq : Hid (plaL (wrongQ t s) (k + 1) = plaL (wrongQ t s) k ++ [(k : Int)]) := Lib.hid (by rw [hnx.out, hQ.out, decide_eq_false hpq]; rfl)
            clear hnx hQ hpq
            go_wp2_with fail
            refine (hc1.out _).mono ?_
            rintro e w1 ⟨rfl, rfl⟩
            go_wp2_with fail
            refine (hc3.out _).mono ?_
            rintro e w1 ⟨rfl, rfl⟩
            go_wp2_with (at_builtin; refine wpList_append_own _ rfl _ _ 42 rfl w.heap.size 2 i0 _ 1 8 Try.underlying42 hi hz0 hz1 hz2 rfl (by decide) _ _ _ rfl (hrl.out.alloc _) ⟨wr.heap.size, 0, none⟩ 1 1 [.int .i64 (k : Int)] rfl rfl (news8 _ _ _) (one8 _) (by unfold maxLen; omega) (by omega) (by simp; omega) ?_)
            intro vq wq hownq hgrq hnilq
            have hgqq := grown_trans (grown_below (below_a1 wr _) _) hgrq
            have hfin : Hid (Below w.heap.size w wq ∧ wq.ownsRow w.heap.size 2 1 vq (m + 1) ((plaL (wrongQ t s) (k + 1)).flatMap intC)) := Lib.hid ⟨hbw.grown hgqq hwz (fun j hj => owns_ge8 hrl.out hj), by rw [hq.out, snoc8]; exact hownq⟩
            clear hownq hgrq hnilq hgqq hrl
            go_wp2
            go_roundw
            case rel => exact ⟨k + 1, m + 1, by omega, by omega, by go_num, by rw [hq.out, List.length_append, hlen.out]; rfl, hfin.out⟩
            case measure => simp [intOf]; omega
        · obtain rfl : k = 60 := by omega
          obtain ⟨A', c', rfl, hO⟩ := owns_i8 hlen hrow
          have hO2 := Lib.hid hO
          clear hrow hO hlen
          simp only [show ((60 : Nat) : Int) = 60 from rfl]
          go_wp2
          go_ret2
          refine ⟨A', m, c', ?_, by omega, by rw [hres.out]; exact hO2.out, hbw⟩
          rw [hres.out]
          rfl
def shM (t s : ByteArray) (k : Nat) : Int × Int := if wroN t s (-((k : Int) + 1)) < (shB t s k).2 then (-((k : Int) + 1), wroN t s (-((k : Int) + 1))) else shB t s k
/-- The best shift behind so many of the two signs. -/
def shS (t s : ByteArray) (k : Nat) : Nat → Int × Int
  | 0 => shB t s k
  | 1 => shM t s k
  | _ => shB t s (k + 1)
theorem shS_next (t s : ByteArray) (k j : Nat) (hj : j < 2) (x : Int) (hx : (2 * (j : Int) - 1) * ((k + 1 : Nat) : Int) = x) : shS t s k (j + 1) = if wroN t s x < (shS t s k j).2 then (x, wroN t s x) else shS t s k j := by
  subst hx
  obtain rfl | rfl : j = 0 ∨ j = 1 := by omega
  · have e : (2 * ((0 : Nat) : Int) - 1) * ((k + 1 : Nat) : Int) = -((k : Int) + 1) := by omega
    rw [e]
    rfl
  · have e : (2 * ((1 : Nat) : Int) - 1) * ((k + 1 : Nat) : Int) = ((k : Int) + 1) := by omega
    rw [e]
    rfl
theorem ret12_3 {p : Int × Int × Int} {a b c : Int} (h : p = (a, b, c)) : Ending.returned (.tuple #[.int .i64 a, .int .i64 b, .int .i64 c]) = .returned (.tuple #[.int .i64 p.1, .int .i64 p.2.1, .int .i64 p.2.2]) := by rw [h]
set_option maxHeartbeats 1600000 in
theorem sm12_spec (t s : ByteArray) (mo : Int) (w : World) (ht : t.size ≤ 1048576) (hs : s.size ≤ 1048576) (hwf : (Lit.int .i64 mo).wf = true) :
    Calls Try.prog 39 #[.string t, .string s, .int .i64 mo] w fun e w' => e = .returned (.tuple #[.int .i64 (smR t s mo).1, .int .i64 (smR t s mo).2.1, .int .i64 (smR t s mo).2.2]) ∧ Below w.heap.size w w' := by
  generalize hr : smR t s mo = r
  replace hr := Lib.hid hr.symm
  have htm : t.size ≤ maxLen := by unfold maxLen; omega
  have hsm : s.size ≤ maxLen := by unfold maxLen; omega
  cases h1 : lineC t with
  | false =>
    have hres : Hid (r = (0, 0, 2)) := Lib.hid (by rw [hr.out, smR, h1]; rfl)
    have hc := Lib.hid (fun W => line12 t h1 W htm)
    clear hr h1
    go_enter Try.func39, Try.ntmps39
    go_wp2_with fail
    refine (hc.out _).mono ?_
    rintro e w1 ⟨rfl, rfl⟩
    go_wp2
    go_ret3
    exact ⟨ret12_3 hres.out, Below.refl _ _⟩
  | true =>
    have hc := Lib.hid (fun W => line12 t h1 W htm)
    cases h2 : lineC s with
    | false =>
      have hres : Hid (r = (0, 0, 2)) := Lib.hid (by rw [hr.out, smR, h1, h2]; rfl)
      have hc2 := Lib.hid (fun W => line12 s h2 W hsm)
      clear hr h1 h2
      go_enter Try.func39, Try.ntmps39
      go_wp2_with fail
      refine (hc.out _).mono ?_
      rintro e w1 ⟨rfl, rfl⟩
      go_wp2_with fail
      refine (hc2.out _).mono ?_
      rintro e w1 ⟨rfl, rfl⟩
      go_wp2
      go_ret3
      exact ⟨ret12_3 hres.out, Below.refl _ _⟩
    | true =>
      have hc2 := Lib.hid (fun W => line12 s h2 W hsm)
      cases h3 : inR mo 0 60 with
      | false =>
        have hres : Hid (r = (0, 0, 2)) := Lib.hid (by rw [hr.out, smR, h1, h2, h3]; rfl)
        have hc3 := Lib.hid (fun W => in8_spec h3 W)
        clear hr h1 h2 h3
        go_enter Try.func39, Try.ntmps39
        go_wp2_with fail
        refine (hc.out _).mono ?_
        rintro e w1 ⟨rfl, rfl⟩
        go_wp2_with fail
        refine (hc2.out _).mono ?_
        rintro e w1 ⟨rfl, rfl⟩
        go_wp2_with fail
        refine (hc3.out _).mono ?_
        rintro e w1 ⟨rfl, rfl⟩
        go_wp2
        go_ret3
        exact ⟨ret12_3 hres.out, Below.refl _ _⟩
      | true =>
        have hc3 := Lib.hid (fun W => in8_spec h3 W)
        obtain ⟨m0, m1⟩ := inR_iff.1 h3
        obtain ⟨mo, rfl⟩ := Int.eq_ofNat_of_zero_le m0
        have hres : Hid (r = ((shB t s mo).1, (shB t s mo).2, 0)) := Lib.hid (by rw [hr.out, smR, h1, h2, h3]; rfl)
        have hc0 := Lib.hid (fun W => wrong12 t s 0 (by omega) rfl W ht hs)
        have hcall := Lib.hid (fun (x : Int) (hx : -60 ≤ x ∧ x ≤ 60) W => wrong12 t s x hx rfl W ht hs)
        have hmo : mo ≤ 60 := by omega
        clear hr h1 h2 h3 m0 m1 hwf
        go_enter Try.func39, Try.ntmps39
        go_wp2_with fail
        refine (hc.out _).mono ?_
        rintro e w1 ⟨rfl, rfl⟩
        go_wp2_with fail
        refine (hc2.out _).mono ?_
        rintro e w1 ⟨rfl, rfl⟩
        go_wp2_with fail
        refine (hc3.out _).mono ?_
        rintro e w1 ⟨rfl, rfl⟩
        go_wp2_with fail
        refine (hc0.out _).mono ?_
        rintro e w1 ⟨rfl, rfl⟩
        go_wp2
        go_loopw [9, 10, 11] (fun b f i wr => ∃ k : Nat, k ≤ mo ∧ i = .int .i64 ((k + 1 : Nat) : Int) ∧ b = .int .i64 (shB t s k).1 ∧ f = .int .i64 (shB t s k).2 ∧ w = wr) (fun _ _ i _ => mo + 1 - (intOf i).toNat)
        case atStart => exact ⟨0, by omega, rfl, rfl, rfl, rfl⟩
        case round =>
          obtain ⟨k, hk, rfl, rfl, rfl, rfl⟩ := hrel
          by_cases hlt : k < mo
          · have g1 : ((k + 1 : Nat) : Int) ≤ (mo : Int) := by omega
            obtain ⟨K, hK⟩ : ∃ K, k + 1 = K := ⟨_, rfl⟩
            rw [hK] at g1 ⊢
            replace hK := Lib.hid hK
            have hwK : IntKind.i64.wrap ((K : Int) + 1) = ((K + 1 : Nat) : Int) := by rw [IntWalk.i64_in _ (by omega)]; omega
            go_wp2
            go_loopw [9, 10, 12] (fun b f g wr => ∃ j : Nat, j ≤ 2 ∧ g = .int .i64 (2 * (j : Int) - 1) ∧ b = .int .i64 (shS t s k j).1 ∧ f = .int .i64 (shS t s k j).2 ∧ w = wr) (fun _ _ g _ => (3 - intOf g).toNat)
            case atStart => exact ⟨0, by omega, rfl, rfl, rfl, rfl⟩
            case round =>
              obtain ⟨j, hj, rfl, rfl, rfl, rfl⟩ := hrel
              by_cases hj2 : j < 2
              · obtain ⟨x, hx⟩ : ∃ x : Int, (2 * (j : Int) - 1) * (K : Int) = x := ⟨_, rfl⟩
                have hKk := hK.out
                have hxr : -60 ≤ x ∧ x ≤ 60 := by
                    obtain rfl | rfl : j = 0 ∨ j = 1 := by omega
                    · rw [← hx]; omega
                    · rw [← hx]; omega
                have hnx := Lib.hid (shS_next t s k j hj2 x (by rw [hKk]; exact hx))
                have hcx := Lib.hid (hcall.out x hxr)
                obtain ⟨sg, hsg⟩ : ∃ sg : Int, 2 * (j : Int) - 1 = sg := ⟨_, rfl⟩
                have gs : sg ≤ 1 := by omega
                rw [hsg] at hx ⊢
                have hwx : IntKind.i64.wrap (sg * (K : Int)) = x := by rw [hx]; exact IntWalk.i64_in _ (by omega)
                have hws : IntKind.i64.wrap (sg + 2) = 2 * ((j + 1 : Nat) : Int) - 1 := by rw [IntWalk.i64_in _ (by omega)]; omega
                replace hx := Lib.hid hx
                replace hsg := Lib.hid hsg
                clear hKk
                generalize shS t s k j = bf at *
                obtain ⟨bs, fs⟩ := bf
                generalize wroN t s x = v at *
                by_cases hvf : v < fs
                · have hq : Hid (shS t s k (j + 1) = (x, v)) := Lib.hid (by rw [hnx.out]; exact if_pos hvf)
                  clear hnx
                  go_wp2_with fail
                  refine (hcx.out _).mono ?_
                  rintro e w1 ⟨rfl, rfl⟩
                  go_wp2
                  go_roundw
                  case rel => exact ⟨j + 1, by omega, by go_num, by rw [hq.out], by rw [hq.out], (by first | trivial | rfl)⟩
                  case measure => have := hsg.out; simp [intOf]; omega
                · have hq : Hid (shS t s k (j + 1) = (bs, fs)) := Lib.hid (by rw [hnx.out]; exact if_neg hvf)
                  have g9 : decide (v < fs) = false := decide_eq_false hvf
                  clear hnx
                  go_wp2_with fail
                  refine (hcx.out _).mono ?_
                  rintro e w1 ⟨rfl, rfl⟩
                  go_wp2
                  go_roundw
                  case rel => exact ⟨j + 1, by omega, by go_num, by rw [hq.out], by rw [hq.out], (by first | trivial | rfl)⟩
                  case measure => have := hsg.out; simp [intOf]; omega
              · obtain rfl : j = 2 := by omega
                simp only [show (2 * ((2 : Nat) : Int) - 1) = 3 from rfl]
                have hq : Hid (shS t s k 2 = shB t s K) := Lib.hid (by rw [← hK.out]; rfl)
                have hKm : K ≤ mo := by omega
                rw [hq.out]
                go_wp2
                go_roundw
                case rel => exact ⟨K, hKm, by go_num, rfl, rfl, (by first | trivial | rfl)⟩
                case measure => have := hK.out; simp [intOf]; omega
          · obtain rfl : k = mo := by omega
            have g1 : ¬ ((k + 1 : Nat) : Int) ≤ (k : Int) := by omega
            go_wp2
            go_ret3
            exact ⟨ret12_3 hres.out, Below.refl _ _⟩
end Go.Proofs.Ytomnnhmhmehdjaa
