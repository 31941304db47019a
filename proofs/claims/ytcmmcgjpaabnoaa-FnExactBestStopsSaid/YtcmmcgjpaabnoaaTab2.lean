/- Racks of stops: the model's functions. -/
import Derived.Test.YtcmmcgjpaabnoaaTab1
namespace Go.Proofs.Ytcmmcgjpaabnoaa
open Go.RowKit Go.ChangeShapes Go.WideShapes Go.Deep
set_option linter.unusedVariables false
set_option linter.unusedSimpArgs false

theorem contains8_drop {xs : List Int} {k : Nat} {x y : Int} (hx : xs[k]? = some y) : (xs.drop k).contains x = (x == y || (xs.drop (k + 1)).contains x) := by
  obtain ⟨h1, rfl⟩ := List.getElem?_eq_some_iff.1 hx
  rw [List.drop_eq_getElem_cons h1, List.contains_cons]
theorem contains8_end {xs : List Int} {k : Nat} {x : Int} (h : xs.length = k) : (xs.drop k).contains x = false := by
  rw [List.drop_of_length_le (by omega)]
  rfl
theorem own8_spec (A : Option Addr) (n c : Nat) (xs : List Int) (w : World) (h : Ints w A n xs) (hn : n ≤ 100000) :
    Calls Try.prog 77 #[.slice A n c] w fun e w' => ∃ A' c', e = .returned (.slice A' n c') ∧ OInts w' w.heap.size A' n xs ∧ Below w.heap.size w w' := by
  have hl := Lib.hid h.1
  obtain ⟨v1, w1, hrun, hown, hgr⟩ := app_ints8 (w.alloc (.cells #[] 2)) w.heap.size 22 (.slice (some ⟨w.heap.size, 0, none⟩) 0 0) 0 [] (owns_new8 w _) A n c xs (h.below (below_a1 _ _)) (by omega) (by simp)
  rw [Nat.zero_add, List.nil_append] at hown
  obtain ⟨A', c', rfl, hO⟩ := owns_i8 hl.out hown
  have hfin := Lib.hid hO
  have hbel : Hid (Below w.heap.size w w1) := Lib.hid (Below.grown (below_a1 _ _) hgr (by simp) (fun j hj => by simp [Value.ownBlock] at hj; omega))
  clear hown hgr hO h
  go_enter Try.func77, Try.ntmps77
  go_wp2_with (at_builtin; refine Lib.wpList_append_run_sl _ rfl _ _ 22 rfl _ _ rfl rfl hrun ?_)
  go_wp2
  go_ret
  exact ⟨_, _, rfl, hfin.out, hbel.out⟩
theorem put8_drop {m : Int} {l : List Int} {k : Nat} {x : Int} (h : l[k]? = some x) (d : Bool) : put8 m d (l.drop k) = if d = false ∧ m ≤ x then (if m < x then m :: x :: put8 m true (l.drop (k + 1)) else x :: put8 m true (l.drop (k + 1))) else x :: put8 m d (l.drop (k + 1)) := by
  obtain ⟨h1, rfl⟩ := List.getElem?_eq_some_iff.1 h
  rw [List.drop_eq_getElem_cons h1, put8]

set_option maxRecDepth 100000 in
set_option maxHeartbeats 4000000 in
theorem put8_spec (A : Option Addr) (n c : Nat) (xs : List Int) (m : Int) (w : World) (h : Ints w A n xs) (hn : n ≤ 100000) :
    Calls Try.prog 62 #[.slice A n c, .int .i64 m] w fun e w' => ∃ A' n' c', e = .returned (.slice A' n' c') ∧ OInts w' w.heap.size A' n' (put8 m false xs) ∧ Below w.heap.size w w' := by
  obtain ⟨i0, hi, hz0, hz1, hz2⟩ := info_parts Try.infoI64
  obtain ⟨p, hp⟩ : ∃ p, put8 m false xs = p := ⟨_, rfl⟩
  have hp2 : Hid (p = [] ++ put8 m false (xs.drop 0)) := Lib.hid hp.symm
  rw [hp]
  clear hp
  go_enter Try.func62, Try.ntmps62
  go_wp2
  go_loopw [5, 6, 7] (fun v d i wr => ∃ (k : Nat) (done : Bool) (acc : List Int), k ≤ n ∧ i = .int .i64 k ∧ d = .bool done ∧ Below w.heap.size w wr ∧ wr.ownsRow w.heap.size 2 1 v acc.length (acc.flatMap intC) ∧ acc.length ≤ k + (if done = true then 1 else 0) ∧ p = acc ++ put8 m done (xs.drop k)) (fun _ _ i _ => n - (intOf i).toNat)
  case atStart => exact ⟨0, false, [], by omega, rfl, rfl, below_a1 _ _, owns_new8 w _, by simp, hp2.out⟩
  case round =>
    rename World => wr
    obtain ⟨k, done, acc, hk, rfl, rfl, hbw, hrow, hal, he⟩ := hrel
    replace he := Lib.hid he
    have hwz := hbw.size
    have hal2 : acc.length ≤ k + 1 := by split at hal <;> omega
    by_cases hlt : k < n
    · obtain ⟨bb, off, x, rfl, hb', hxs, c0⟩ := int_at (h.below hbw) hlt
      have hbk : bb < w.heap.size := by obtain ⟨b2, o2, x2, e2, hb2, _⟩ := int_at h hlt; cases e2; exact hb2
      have hk0 : (0 : Int) ≤ (k : Int) := Int.natCast_nonneg _
      have hk1 : (k : Int) < (n : Int) := by omega
      have hdr := put8_drop (m := m) hxs.out
      cases done with
      | true =>
        have hnx : Hid (p = (acc ++ [x]) ++ put8 m true (xs.drop (k + 1))) := Lib.hid (by rw [he.out, hdr true, if_neg (by simp)]; simp)
        clear hdr
        have hrl := Lib.hid hrow
        clear hrow
        go_wp2_with (at_builtin; refine wpList_append_own _ rfl _ _ 22 rfl w.heap.size 2 i0 _ 1 8 Try.underlying22 hi hz0 hz1 hz2 rfl (by decide) _ _ _ rfl (hrl.out.alloc _) ⟨wr.heap.size, 0, none⟩ 1 1 [.int .i64 x] rfl rfl (news8 _ _ _) (one8 _) (by unfold maxLen; omega) (by omega) (by simp; omega) ?_)
        intro vq0 wq0 hownq0 hgrq0 hnilq0
        have hgqq0 := grown_trans (grown_below (below_a1 wr _) _) hgrq0
        clear hgrq0 hnilq0
        have hrel4 : Hid (wq0.ownsRow w.heap.size 2 1 vq0 (acc ++ [x]).length ((acc ++ [x]).flatMap intC) ∧ Below w.heap.size w wq0) := Lib.hid ⟨by rw [snoc8, List.length_append]; exact hownq0, hbw.grown hgqq0 hwz (fun j hj => owns_ge8 hrl.out hj)⟩
        clear hownq0 hgqq0 hrl
        go_wp2
        go_roundw
        case rel => exact ⟨k + 1, true, acc ++ [x], by omega, by go_num, rfl, hrel4.out.2, hrel4.out.1, by simp at hal ⊢; omega, hnx.out⟩
        case measure => simp [intOf]; omega
      | false =>
        by_cases h1 : m ≤ x
        · have g1 : decide (m ≤ x) = true := decide_eq_true h1
          by_cases h2 : m < x
          · have g2 : decide (m < x) = true := decide_eq_true h2
            have hnx : Hid (p = (acc ++ [m] ++ [x]) ++ put8 m true (xs.drop (k + 1))) := Lib.hid (by rw [he.out, hdr false, if_pos ⟨rfl, h1⟩, if_pos h2]; simp)
            clear hdr h1 h2
            have hrl := Lib.hid hrow
            clear hrow
            go_wp2_with (at_builtin; refine wpList_append_own _ rfl _ _ 22 rfl w.heap.size 2 i0 _ 1 8 Try.underlying22 hi hz0 hz1 hz2 rfl (by decide) _ _ _ rfl (hrl.out.alloc _) ⟨wr.heap.size, 0, none⟩ 1 1 [.int .i64 m] rfl rfl (news8 _ _ _) (one8 _) (by unfold maxLen; omega) (by omega) (by simp; omega) ?_)
            intro vt0 wt0 hownt0 hgrt0 hnilt0
            have hgqt0 := grown_trans (grown_below (below_a1 wr _) _) hgrt0
            clear hgrt0 hnilt0
            have hrow5 : wt0.ownsRow w.heap.size 2 1 vt0 (acc ++ [m]).length ((acc ++ [m]).flatMap intC) := by rw [snoc8, List.length_append]; exact hownt0
            have hb5 := hbw.grown hgqt0 hwz (fun j hj => owns_ge8 hrl.out hj)
            have hz5 := hb5.size
            have c5 := (hb5.cell (p := ⟨bb, off + k, none⟩) hbk).trans ((hbw.cell (p := ⟨bb, off + k, none⟩) hbk).symm.trans c0)
            have hrl5 := Lib.hid hrow5
            have hlb5 : (acc ++ [m]).length ≤ 100001 := by simp at hal ⊢; omega
            have hlen5 : Hid ((acc ++ [m]).length = acc.length + 1) := Lib.hid (by simp)
            have hbk5 : bb < wt0.heap.size := Nat.lt_of_lt_of_le hbk hz5
            have hf5 := owns_form8 hrow5
            obtain ⟨A5, c5', rfl⟩ := hf5
            clear hownt0 hgqt0 hrl hrow5 c0
            generalize acc ++ [m] = acc5 at *
            go_wp2_with (at_builtin; refine wpList_append_own _ rfl _ _ 22 rfl w.heap.size 2 i0 _ 1 8 Try.underlying22 hi hz0 hz1 hz2 rfl (by decide) _ _ _ rfl (hrl5.out.alloc _) ⟨wt0.heap.size, 0, none⟩ 1 1 [.int .i64 x] rfl rfl (news8 _ _ _) (one8 _) (by unfold maxLen; omega) (by omega) (by simp; omega) ?_)
            intro vt1 wt1 hownt1 hgrt1 hnilt1
            have hgqt1 := grown_trans (grown_below (below_a1 wt0 _) _) hgrt1
            clear hgrt1 hnilt1
            have hrel4 : Hid (wt1.ownsRow w.heap.size 2 1 vt1 (acc5 ++ [x]).length ((acc5 ++ [x]).flatMap intC) ∧ Below w.heap.size w wt1) := Lib.hid ⟨by rw [snoc8, List.length_append]; exact hownt1, hb5.grown hgqt1 hz5 (fun j hj => owns_ge8 hrl5.out hj)⟩
            clear hownt1 hgqt1 hrl5
            go_wp2
            go_roundw
            case rel => exact ⟨k + 1, true, acc5 ++ [x], by omega, by go_num, rfl, hrel4.out.2, hrel4.out.1, by have := hlen5.out; simp at hal ⊢; omega, hnx.out⟩
            case measure => simp [intOf]; omega
          · have g2 : decide (m < x) = false := decide_eq_false h2
            have hnx : Hid (p = (acc ++ [x]) ++ put8 m true (xs.drop (k + 1))) := Lib.hid (by rw [he.out, hdr false, if_pos ⟨rfl, h1⟩, if_neg h2]; simp)
            clear hdr
            have hrl := Lib.hid hrow
            clear hrow
            go_wp2_with (at_builtin; refine wpList_append_own _ rfl _ _ 22 rfl w.heap.size 2 i0 _ 1 8 Try.underlying22 hi hz0 hz1 hz2 rfl (by decide) _ _ _ rfl (hrl.out.alloc _) ⟨wr.heap.size, 0, none⟩ 1 1 [.int .i64 x] rfl rfl (news8 _ _ _) (one8 _) (by unfold maxLen; omega) (by omega) (by simp; omega) ?_)
            intro vq1 wq1 hownq1 hgrq1 hnilq1
            have hgqq1 := grown_trans (grown_below (below_a1 wr _) _) hgrq1
            clear hgrq1 hnilq1
            have hrel4 : Hid (wq1.ownsRow w.heap.size 2 1 vq1 (acc ++ [x]).length ((acc ++ [x]).flatMap intC) ∧ Below w.heap.size w wq1) := Lib.hid ⟨by rw [snoc8, List.length_append]; exact hownq1, hbw.grown hgqq1 hwz (fun j hj => owns_ge8 hrl.out hj)⟩
            clear hownq1 hgqq1 hrl
            go_wp2
            go_roundw
            case rel => exact ⟨k + 1, true, acc ++ [x], by omega, by go_num, rfl, hrel4.out.2, hrel4.out.1, by simp at hal ⊢; omega, hnx.out⟩
            case measure => simp [intOf]; omega
        · have g1 : decide (m ≤ x) = false := decide_eq_false h1
          have hnx : Hid (p = (acc ++ [x]) ++ put8 m false (xs.drop (k + 1))) := Lib.hid (by rw [he.out, hdr false, if_neg (fun q => h1 q.2)]; simp)
          clear hdr
          have hrl := Lib.hid hrow
          clear hrow
          go_wp2_with (at_builtin; refine wpList_append_own _ rfl _ _ 22 rfl w.heap.size 2 i0 _ 1 8 Try.underlying22 hi hz0 hz1 hz2 rfl (by decide) _ _ _ rfl (hrl.out.alloc _) ⟨wr.heap.size, 0, none⟩ 1 1 [.int .i64 x] rfl rfl (news8 _ _ _) (one8 _) (by unfold maxLen; omega) (by omega) (by simp; omega) ?_)
          intro vq2 wq2 hownq2 hgrq2 hnilq2
          have hgqq2 := grown_trans (grown_below (below_a1 wr _) _) hgrq2
          clear hgrq2 hnilq2
          have hrel4 : Hid (wq2.ownsRow w.heap.size 2 1 vq2 (acc ++ [x]).length ((acc ++ [x]).flatMap intC) ∧ Below w.heap.size w wq2) := Lib.hid ⟨by rw [snoc8, List.length_append]; exact hownq2, hbw.grown hgqq2 hwz (fun j hj => owns_ge8 hrl.out hj)⟩
          clear hownq2 hgqq2 hrl
          go_wp2
          go_roundw
          case rel => exact ⟨k + 1, false, acc ++ [x], by omega, by go_num, rfl, hrel4.out.2, hrel4.out.1, by simp at hal ⊢; omega, hnx.out⟩
          case measure => simp [intOf]; omega
    · obtain rfl : k = n := by omega
      cases done with
      | true =>
        have hq : Hid (p = acc) := Lib.hid (by rw [he.out, List.drop_of_length_le (by rw [h.1]; omega)]; simp [put8])
        obtain ⟨A', c', rfl, hO⟩ := owns_i8 rfl hrow
        have hO2 := Lib.hid hO
        clear hO hrow
        go_wp2
        go_ret
        exact ⟨A', acc.length, ⟨c', rfl⟩, by rw [hq.out]; exact hO2.out, hbw⟩
      | false =>
        have hq : Hid (p = acc ++ [m]) := Lib.hid (by rw [he.out, List.drop_of_length_le (by rw [h.1]; omega)]; simp [put8])
        have hrl := Lib.hid hrow
        clear hrow
        go_wp2_with (at_builtin; refine wpList_append_own _ rfl _ _ 22 rfl w.heap.size 2 i0 _ 1 8 Try.underlying22 hi hz0 hz1 hz2 rfl (by decide) _ _ _ rfl (hrl.out.alloc _) ⟨wr.heap.size, 0, none⟩ 1 1 [.int .i64 m] rfl rfl (news8 _ _ _) (one8 _) (by unfold maxLen; omega) (by omega) (by simp; omega) ?_)
        intro vt2 wt2 hownt2 hgrt2 hnilt2
        have hgqt2 := grown_trans (grown_below (below_a1 wr _) _) hgrt2
        clear hgrt2 hnilt2
        have hb5 := Lib.hid (hbw.grown hgqt2 hwz (fun j hj => owns_ge8 hrl.out hj))
        obtain ⟨A', c', rfl, hO⟩ := owns_i8 (l := acc ++ [m]) rfl (by rw [snoc8, List.length_append]; exact hownt2)
        have hO2 := Lib.hid hO
        clear hO hownt2 hgqt2 hrl
        go_wp2
        go_ret
        exact ⟨A', _, c', rfl, hq.out ▸ hO2.out, hb5.out⟩


theorem filter_snoc8 {m x : Int} {ps : List Int} {k : Nat} (hx : ps[k]? = some x) : (ps.take (k + 1)).filter (fun x => x != m) = if (x != m) = true then (ps.take k).filter (fun x => x != m) ++ [x] else (ps.take k).filter (fun x => x != m) := by
  rw [take8 hx, List.filter_append]
  cases h : (x != m) <;> simp [List.filter_cons, h]

theorem find8_drop {p : Int → Bool} {ps : List Int} {k : Nat} {x : Int} (hx : ps[k]? = some x) : (ps.drop k).find? p = if p x = true then some x else (ps.drop (k + 1)).find? p := by
  obtain ⟨h1, rfl⟩ := List.getElem?_eq_some_iff.1 hx
  rw [List.drop_eq_getElem_cons h1, List.find?_cons]
  cases p ps[k] <;> rfl

end Go.Proofs.Ytcmmcgjpaabnoaa
