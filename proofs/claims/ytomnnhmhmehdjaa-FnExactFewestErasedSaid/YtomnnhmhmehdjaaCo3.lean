/- Corrections: the model's WornPlaces. -/
import Derived.Test.YtomnnhmhmehdjaaCo2
import Derived.Test.YtomnnhmhmehdjaaStrO
namespace Go.Proofs.Ytomnnhmhmehdjaa
open Go.RowKit Go.ChangeShapes Go.WideShapes Go.Deep
set_option linter.unusedVariables false
set_option linter.unusedSimpArgs false

theorem planB_size {s : ByteArray} (h : planB s = true) : s.size ≤ 60 := by simp only [planB, Bool.and_eq_true, decide_eq_true_eq] at h; exact h.2
def wornQ (ps : List ByteArray) (a : Nat) : Bool := decide (3 < eraN ps a)
theorem wornR_no {ps : List ByteArray} (h : ps.all planB = false) : wornR ps = ([], 7) := by rw [wornR, h]; rfl
theorem wornR_many {ps : List ByteArray} (h : ps.all planB = true) (h2 : 20 < ps.length) : wornR ps = ([], 2) := by rw [wornR, h, if_pos rfl, if_pos h2]
theorem wornR_yes {ps : List ByteArray} (h : ps.all planB = true) (h2 : ¬ 20 < ps.length) : wornR ps = (plaL (wornQ ps) 60, 0) := by rw [wornR, h, if_pos rfl, if_neg h2]; rfl
set_option maxHeartbeats 2400000 in
theorem wo12_spec (A : Option Addr) (n c : Nat) (ps : List ByteArray) (w : World) (h : Strs w A n ps) (hn : n ≤ 1048576) (hg : ∀ x ∈ ps, x.size ≤ maxLen) :
    Calls Try.prog 31 #[.slice A n c] w (IOut (wornR ps) w) := by
  generalize hr : wornR ps = r
  replace hr := Lib.hid hr.symm
  have hl := Lib.hid h.1
  have hpl := Lib.hid (fun (x : ByteArray) (hx : x ∈ ps) W => isplan12 x rfl W (hg x hx))
  obtain ⟨i0, hi, hz0, hz1, hz2⟩ := info_parts Try.infoI64
  clear hg
  go_enter Try.func31, Try.ntmps31
  go_wp2
  go_loopw [4] (fun i wr => ∃ k : Nat, k ≤ n ∧ i = .int .i64 k ∧ w = wr ∧ ps.all planB = (ps.drop k).all planB) (fun i _ => n - (intOf i).toNat)
  case atStart => exact ⟨0, by omega, rfl, rfl, rfl⟩
  case round =>
    obtain ⟨k, hk, rfl, rfl, hall⟩ := hrel
    replace hall := Lib.hid hall
    by_cases hlt : k < n
    · obtain ⟨b, off, x, rfl, hb, hx, c0⟩ := str_at h hlt
      have hk0 : (0 : Int) ≤ (k : Int) := Int.natCast_nonneg _
      have hk1 : (k : Int) < (n : Int) := by omega
      have hst := Lib.hid (all8_drop (p := planB) hx.out)
      have hcx := Lib.hid (hpl.out x (List.mem_of_getElem? hx.out))
      cases h1 : planB x with
      | false =>
        rw [h1] at hcx
        have hres : Hid (r = ([], 7)) := Lib.hid (by rw [hr.out, wornR_no (by rw [hall.out, hst.out, h1]; rfl)])
        clear h1 hst
        go_wp2_with fail
        refine (hcx.out _).mono ?_
        rintro e w1 ⟨rfl, rfl⟩
        go_wp2
        go_ret2
        exact IOut.bad hres.out (Below.refl _ _)
      | true =>
        rw [h1] at hcx
        have hnx : Hid (ps.all planB = (ps.drop (k + 1)).all planB) := Lib.hid (by rw [hall.out, hst.out, h1]; rfl)
        clear h1 hst
        go_wp2_with fail
        refine (hcx.out _).mono ?_
        rintro e w1 ⟨rfl, rfl⟩
        go_wp2
        go_roundw
        case rel => exact ⟨k + 1, by omega, by go_num, (by first | trivial | rfl), hnx.out⟩
        case measure => simp [intOf]; omega
    · obtain rfl : k = n := by omega
      have hyes : Hid (ps.all planB = true) := Lib.hid (by rw [hall.out, all8_end (by rw [hl.out]; exact Nat.le_refl _)])
      by_cases h20 : 20 < k
      · have hres : Hid (r = ([], 2)) := Lib.hid (by rw [hr.out, wornR_many hyes.out (by rw [hl.out]; exact h20)])
        have g1 : (20 : Int) < (k : Int) := by omega
        go_wp2
        go_ret2
        exact IOut.bad hres.out (Below.refl _ _)
      · have hres : Hid (r = (plaL (wornQ ps) 60, 0)) := Lib.hid (by rw [hr.out, wornR_yes hyes.out (by rw [hl.out]; exact h20)])
        have g1 : decide ((20 : Int) < (k : Int)) = false := decide_eq_false (by omega)
        have g2 : decide (20 < k) = false := decide_eq_false h20
        have hk20 : k ≤ 20 := by omega
        clear hpl hk
        go_wp2
        go_loopw [5, 6, 7, 8] (fun o a _ _ wr => ∃ q m : Nat, q ≤ 60 ∧ m ≤ q ∧ a = .int .i64 (q : Int) ∧ (plaL (wornQ ps) q).length = m ∧ Below w.heap.size w wr ∧ wr.ownsRow w.heap.size 2 1 o m ((plaL (wornQ ps) q).flatMap intC)) (fun _ a _ _ _ => 60 - (intOf a).toNat)
        case atStart => exact ⟨0, 0, by omega, by omega, rfl, rfl, below_a1 _ _, owns_new8 w _⟩
        case round =>
          rename World => wr
          obtain ⟨q, m, hq, hm, rfl, hlen, hbw, hrow⟩ := hrel
          have hwz := hbw.size
          by_cases hlt : q < 60
          · have g3 : (q : Int) < 60 := by omega
            have hq0 : (0 : Int) ≤ (q : Int) := Int.natCast_nonneg _
            have hS := h.below hbw
            have hnx := Lib.hid (plaL_next (wornQ ps) q)
            have hrl := Lib.hid hrow
            replace hlen := Lib.hid hlen
            clear hrow
            have hw1 : IntKind.i64.wrap ((q : Int) + 1) = ((q + 1 : Nat) : Int) := by rw [IntWalk.i64_in _ (by omega)]; omega
            go_wp2
            go_loopw [7, 8] (fun cn i wi => ∃ j e : Nat, j ≤ k ∧ e ≤ j ∧ i = .int .i64 (j : Int) ∧ cn = .int .i64 (e : Int) ∧ eraN (ps.take j) q = e ∧ wr = wi) (fun _ i _ => k - (intOf i).toNat)
            case atStart => exact ⟨0, 0, by omega, by omega, rfl, rfl, rfl, rfl⟩
            case round =>
              obtain ⟨j, e, hj, he, rfl, rfl, hev, rfl⟩ := hrel
              replace hev := Lib.hid hev
              by_cases hjk : j < k
              · obtain ⟨b, off, x, rfl, hb, hx, c0⟩ := str_at hS hjk
                have hj0 : (0 : Int) ≤ (j : Int) := Int.natCast_nonneg _
                have hj1 : (j : Int) < (k : Int) := by omega
                have hst := Lib.hid (eraN_next (a := q) hx.out)
                have hx60 : x.size ≤ 60 := planB_size (List.all_eq_true.1 hyes.out x (List.mem_of_getElem? hx.out))
                have s1 : IntKind.i64.wrap ((e : Int) + 1) = ((e + 1 : Nat) : Int) := by rw [IntWalk.i64_in _ (by omega)]; omega
                by_cases hqx : q < x.size
                · have g4 : (q : Int) < (x.size : Int) := by omega
                  have hbq := Lib.hid (bAt_eq hqx)
                  by_cases h35 : (x[q]'hqx).toNat = 35
                  · have y1 : (((x[q]'hqx).toNat : Int) == 35) = true := beq_iff_eq.2 (by omega)
                    have y2 : ((x[q]'hqx).toNat == 35) = true := beq_iff_eq.2 h35
                    have hv : Hid (eraN (ps.take (j + 1)) q = e + 1) := Lib.hid (by rw [hst.out, hev.out, hbq.out, decide_eq_true hqx, decide_eq_true h35]; rfl)
                    clear h35 hst
                    go_wp2
                    go_roundw
                    case rel => exact ⟨j + 1, e + 1, by omega, by omega, by go_num, by go_num, hv.out, (by first | trivial | rfl)⟩
                    case measure => simp [intOf]; omega
                  · have y1 : (((x[q]'hqx).toNat : Int) == 35) = false := beq_eq_false_iff_ne.2 (by omega)
                    have y2 : ((x[q]'hqx).toNat == 35) = false := beq_eq_false_iff_ne.2 h35
                    have hv : Hid (eraN (ps.take (j + 1)) q = e) := Lib.hid (by rw [hst.out, hev.out, hbq.out, decide_eq_true hqx, decide_eq_false h35]; rfl)
                    clear h35 hst
                    go_wp2
                    go_roundw
                    case rel => exact ⟨j + 1, e, by omega, by omega, by go_num, by go_num, hv.out, (by first | trivial | rfl)⟩
                    case measure => simp [intOf]; omega
                · have g4 : ¬ (q : Int) < (x.size : Int) := by omega
                  have g5 : decide ((q : Int) < (x.size : Int)) = false := decide_eq_false g4
                  have g6 : decide (q < x.size) = false := decide_eq_false hqx
                  have hv : Hid (eraN (ps.take (j + 1)) q = e) := Lib.hid (by rw [hst.out, hev.out, decide_eq_false hqx]; rfl)
                  clear hst
                  go_wp2
                  go_roundw
                  case rel => exact ⟨j + 1, e, by omega, by omega, by go_num, by go_num, hv.out, (by first | trivial | rfl)⟩
                  case measure => simp [intOf]; omega
              · obtain rfl : j = k := by omega
                have hE : Hid (eraN ps q = e) := Lib.hid (by rw [← hev.out, List.take_of_length_le (by rw [hl.out]; exact Nat.le_refl _)])
                have g7 : decide ((j : Int) < (j : Int)) = false := decide_eq_false (by omega)
                by_cases h3 : 3 < e
                · have g8 : (3 : Int) < (e : Int) := by omega
                  have hp : Hid (plaL (wornQ ps) (q + 1) = plaL (wornQ ps) q ++ [(q : Int)]) := Lib.hid (by rw [hnx.out, wornQ, hE.out, decide_eq_true h3]; rfl)
                  clear hnx hE hev
                  go_wp2_with (at_builtin; refine wpList_append_own _ rfl _ _ 42 rfl w.heap.size 2 i0 _ 1 8 Try.underlying42 hi hz0 hz1 hz2 rfl (by decide) _ _ _ rfl (hrl.out.alloc _) ⟨wr.heap.size, 0, none⟩ 1 1 [.int .i64 (q : Int)] rfl rfl (news8 _ _ _) (one8 _) (by unfold maxLen; omega) (by omega) (by simp; omega) ?_)
                  intro vq wq hownq hgrq hnilq
                  have hgqq := grown_trans (grown_below (below_a1 wr _) _) hgrq
                  have hfin : Hid (Below w.heap.size w wq ∧ wq.ownsRow w.heap.size 2 1 vq (m + 1) ((plaL (wornQ ps) (q + 1)).flatMap intC)) := Lib.hid ⟨hbw.grown hgqq hwz (fun j hj => owns_ge8 hrl.out hj), by rw [hp.out, snoc8]; exact hownq⟩
                  clear hownq hgrq hnilq hgqq hrl
                  go_wp2
                  go_roundw
                  case rel => exact ⟨q + 1, m + 1, by omega, by omega, by go_num, by rw [hp.out, List.length_append, hlen.out]; rfl, hfin.out⟩
                  case measure => simp [intOf]; omega
                · have g8 : decide ((3 : Int) < (e : Int)) = false := decide_eq_false (by omega)
                  have g9 : decide (3 < e) = false := decide_eq_false h3
                  have hp : Hid (plaL (wornQ ps) (q + 1) = plaL (wornQ ps) q) := Lib.hid (by rw [hnx.out, wornQ, hE.out, decide_eq_false h3]; simp)
                  clear hnx hE hev
                  go_wp2
                  go_roundw
                  case rel => exact ⟨q + 1, m, by omega, by omega, by go_num, by rw [hp.out]; exact hlen.out, hbw, by rw [hp.out]; exact hrl.out⟩
                  case measure => simp [intOf]; omega
          · obtain rfl : q = 60 := by omega
            obtain ⟨A', c', rfl, hO⟩ := owns_i8 hlen hrow
            have hO2 := Lib.hid hO
            clear hrow hO hlen
            simp only [show ((60 : Nat) : Int) = 60 from rfl]
            go_wp2
            go_ret2
            refine ⟨A', m, c', ?_, by omega, by rw [hres.out]; exact hO2.out, hbw⟩
            rw [hres.out]
            rfl
end Go.Proofs.Ytomnnhmhmehdjaa
