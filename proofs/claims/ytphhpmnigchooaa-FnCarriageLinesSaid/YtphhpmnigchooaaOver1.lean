/- Places with several letters: the model's functions and the program's. -/
import Derived.Test.YtphhpmnigchooaaOver0
import Derived.Test.YtphhpmnigchooaaMach0
import Derived.OwnWalk
import Derived.Deep.MidRow
namespace Go.Proofs.Ytphhpmnigchooaa
open Go.RowKit Go.ChangeShapes Go.WideShapes Go.Deep
set_option linter.unusedVariables false
set_option linter.unusedSimpArgs false

theorem news1 (w : World) (v : Value) (T : TypeId) : ∀ j u, [v][j]? = some u → (w.alloc (.cells #[v] T)).cell? ((⟨w.heap.size, 0, none⟩ : Addr).add j) = some u := by
  intro j u hj
  match j, hj with
  | 0, hj => cases hj; exact cell_new (by simp [Addr.add]) rfl
  | j + 1, hj => simp at hj
theorem one1 (x : Int) : ∀ u ∈ [Value.int .i64 x], u.oneCell' = true := by
  intro u hu
  simp only [List.mem_cons, List.not_mem_nil, or_false] at hu
  rcases hu with rfl; rfl
theorem in_snoc (l : List Int) (x : Int) : (l ++ [x]).flatMap intC = l.flatMap intC ++ [.int .i64 x] := by simp [intC]
theorem owns_ge3 {w : World} {base : Nat} {E : TypeId} {size n g : Nat} {v : Value} {xs : List Value} (h : w.ownsRow base E size v n xs) (hg : v.ownBlock = some g) : base ≤ g := by
  obtain ⟨_, ⟨rfl, _⟩ | ⟨g', cap, cur, rfl, hb, _⟩⟩ := h
  · cases hg
  · cases hg; exact hb
theorem owns_form2 {w : World} {base : Nat} {E : TypeId} {size n : Nat} {v : Value} {xs : List Value} (h : w.ownsRow base E size v n xs) : ∃ A c, v = .slice A n c := by
  obtain ⟨_, ⟨rfl, rfl⟩ | ⟨g', cap, cur, rfl, _⟩⟩ := h
  · exact ⟨_, _, rfl⟩
  · exact ⟨_, _, rfl⟩
theorem owns_in {w : World} {base n : Nat} {L : Value} {l : List Int} (hn : l.length = n) (h : w.ownsRow base 2 1 L n (l.flatMap intC)) : ∃ A c, L = .slice A n c ∧ OInts w base A n l := by
  subst hn
  exact ORow.of_owns (fun _ => rfl) h
theorem owns_nil (w : World) (E : TypeId) : (w.alloc (.cells #[] E)).ownsRow w.heap.size E 1 (.slice (some ⟨w.heap.size, 0, none⟩) 0 0) 0 [] :=
  ⟨rfl, .inr ⟨w.heap.size, 0, #[], rfl, Nat.le_refl _, heap_alloc_new _ _, Nat.le_refl _, by unfold maxLen; omega, rfl, rfl⟩⟩
theorem put_drop {m : Int} {l : List Int} {k : Nat} {x : Int} (h : l[k]? = some x) (d : Bool) : putI m d (l.drop k) = if d = false ∧ m ≤ x then (if m < x then m :: x :: putI m true (l.drop (k + 1)) else x :: putI m true (l.drop (k + 1))) else x :: putI m d (l.drop (k + 1)) := by
  obtain ⟨h1, rfl⟩ := List.getElem?_eq_some_iff.1 h
  rw [List.drop_eq_getElem_cons h1, putI]

set_option maxRecDepth 100000 in
set_option maxHeartbeats 4000000 in
theorem put_spec (A : Option Addr) (n c : Nat) (xs : List Int) (m : Int) (w : World) (h : Ints w A n xs) (hn : n ≤ 100000) :
    Calls Try.prog 23 #[.slice A n c, .int .i64 m] w fun e w' => ∃ A' n' c', e = .returned (.slice A' n' c') ∧ OInts w' w.heap.size A' n' (putI m false xs) ∧ Below w.heap.size w w' := by
  obtain ⟨i0, hi, hz0, hz1, hz2⟩ := info_parts Try.infoI64
  obtain ⟨p, hp⟩ : ∃ p, putI m false xs = p := ⟨_, rfl⟩
  have hp2 : Hid (p = [] ++ putI m false (xs.drop 0)) := Lib.hid hp.symm
  rw [hp]
  clear hp
  go_enter Try.func23, Try.ntmps23
  go_wp2
  go_loopw [5, 6, 7] (fun v d i wr => ∃ (k : Nat) (done : Bool) (acc : List Int), k ≤ n ∧ i = .int .i64 k ∧ d = .bool done ∧ Below w.heap.size w wr ∧ wr.ownsRow w.heap.size 2 1 v acc.length (acc.flatMap intC) ∧ acc.length ≤ k + (if done = true then 1 else 0) ∧ p = acc ++ putI m done (xs.drop k)) (fun _ _ i _ => n - (intOf i).toNat)
  case atStart => exact ⟨0, false, [], by omega, rfl, rfl, below_a1 _ _, owns_nil w _, by simp, hp2.out⟩
  case round =>
    rename World => wr
    obtain ⟨k, done, acc, hk, rfl, rfl, hbw, hrow, hal, he⟩ := hrel
    replace he := Lib.hid he
    have hwz := hbw.size
    have hal2 : acc.length ≤ k + 1 := by split at hal <;> omega
    by_cases hlt : k < n
    · obtain ⟨bb, off, x, rfl, hb', hxs, c0⟩ := int_at (h.below hbw) hlt
      have hbk : bb < w.heap.size := by obtain ⟨b2, o2, x2, e2, hb2, _⟩ := int_at h hlt; cases e2; exact hb2
      have hk0 : (0 : Int) ≤ (k : Int) := Int.natCast_nonneg _
      have hk1 : (k : Int) < (n : Int) := by omega
      have hdr := put_drop (m := m) hxs.out
      cases done with
      | true =>
        have hnx : Hid (p = (acc ++ [x]) ++ putI m true (xs.drop (k + 1))) := Lib.hid (by rw [he.out, hdr true, if_neg (by simp)]; simp)
        clear hdr
        have hrl := Lib.hid hrow
        clear hrow
        go_wp2_with (at_builtin; refine wpList_append_own _ rfl _ _ 33 rfl w.heap.size 2 i0 _ 1 8 Try.underlying33 hi hz0 hz1 hz2 rfl (by decide) _ _ _ rfl (hrl.out.alloc _) ⟨wr.heap.size, 0, none⟩ 1 1 [.int .i64 x] rfl rfl (news1 _ _ _) (one1 _) (by unfold maxLen; omega) (by omega) (by simp; omega) ?_)
        intro vq0 wq0 hownq0 hgrq0 hnilq0
        have hgqq0 := grown_trans (grown_below (below_a1 wr _) _) hgrq0
        clear hgrq0 hnilq0
        have hrel4 : Hid (wq0.ownsRow w.heap.size 2 1 vq0 (acc ++ [x]).length ((acc ++ [x]).flatMap intC) ∧ Below w.heap.size w wq0) := Lib.hid ⟨by rw [in_snoc, List.length_append]; exact hownq0, hbw.grown hgqq0 hwz (fun j hj => owns_ge3 hrl.out hj)⟩
        clear hownq0 hgqq0 hrl
        go_wp2
        go_roundw
        case rel => exact ⟨k + 1, true, acc ++ [x], by omega, by go_num, rfl, hrel4.out.2, hrel4.out.1, by simp at hal ⊢; omega, hnx.out⟩
        case measure => simp [intOf]; omega
      | false =>
        by_cases h1 : m ≤ x
        · have g1 : decide (m ≤ x) = true := decide_eq_true h1
          by_cases h2 : m < x
          · have g2 : decide (m < x) = true := decide_eq_true h2
            have hnx : Hid (p = (acc ++ [m] ++ [x]) ++ putI m true (xs.drop (k + 1))) := Lib.hid (by rw [he.out, hdr false, if_pos ⟨rfl, h1⟩, if_pos h2]; simp)
            clear hdr h1 h2
            have hrl := Lib.hid hrow
            clear hrow
            go_wp2_with (at_builtin; refine wpList_append_own _ rfl _ _ 33 rfl w.heap.size 2 i0 _ 1 8 Try.underlying33 hi hz0 hz1 hz2 rfl (by decide) _ _ _ rfl (hrl.out.alloc _) ⟨wr.heap.size, 0, none⟩ 1 1 [.int .i64 m] rfl rfl (news1 _ _ _) (one1 _) (by unfold maxLen; omega) (by omega) (by simp; omega) ?_)
            intro vt0 wt0 hownt0 hgrt0 hnilt0
            have hgqt0 := grown_trans (grown_below (below_a1 wr _) _) hgrt0
            clear hgrt0 hnilt0
            have hrow5 : wt0.ownsRow w.heap.size 2 1 vt0 (acc ++ [m]).length ((acc ++ [m]).flatMap intC) := by rw [in_snoc, List.length_append]; exact hownt0
            have hb5 := hbw.grown hgqt0 hwz (fun j hj => owns_ge3 hrl.out hj)
            have hz5 := hb5.size
            have c5 := (hb5.cell (p := ⟨bb, off + k, none⟩) hbk).trans ((hbw.cell (p := ⟨bb, off + k, none⟩) hbk).symm.trans c0)
            have hrl5 := Lib.hid hrow5
            have hlb5 : (acc ++ [m]).length ≤ 100001 := by simp at hal ⊢; omega
            have hlen5 : Hid ((acc ++ [m]).length = acc.length + 1) := Lib.hid (by simp)
            have hbk5 : bb < wt0.heap.size := Nat.lt_of_lt_of_le hbk hz5
            have hf5 := owns_form2 hrow5
            obtain ⟨A5, c5', rfl⟩ := hf5
            clear hownt0 hgqt0 hrl hrow5 c0
            generalize acc ++ [m] = acc5 at *
            go_wp2_with (at_builtin; refine wpList_append_own _ rfl _ _ 33 rfl w.heap.size 2 i0 _ 1 8 Try.underlying33 hi hz0 hz1 hz2 rfl (by decide) _ _ _ rfl (hrl5.out.alloc _) ⟨wt0.heap.size, 0, none⟩ 1 1 [.int .i64 x] rfl rfl (news1 _ _ _) (one1 _) (by unfold maxLen; omega) (by omega) (by simp; omega) ?_)
            intro vt1 wt1 hownt1 hgrt1 hnilt1
            have hgqt1 := grown_trans (grown_below (below_a1 wt0 _) _) hgrt1
            clear hgrt1 hnilt1
            have hrel4 : Hid (wt1.ownsRow w.heap.size 2 1 vt1 (acc5 ++ [x]).length ((acc5 ++ [x]).flatMap intC) ∧ Below w.heap.size w wt1) := Lib.hid ⟨by rw [in_snoc, List.length_append]; exact hownt1, hb5.grown hgqt1 hz5 (fun j hj => owns_ge3 hrl5.out hj)⟩
            clear hownt1 hgqt1 hrl5
            go_wp2
            go_roundw
            case rel => exact ⟨k + 1, true, acc5 ++ [x], by omega, by go_num, rfl, hrel4.out.2, hrel4.out.1, by have := hlen5.out; simp at hal ⊢; omega, hnx.out⟩
            case measure => simp [intOf]; omega
          · have g2 : decide (m < x) = false := decide_eq_false h2
            have hnx : Hid (p = (acc ++ [x]) ++ putI m true (xs.drop (k + 1))) := Lib.hid (by rw [he.out, hdr false, if_pos ⟨rfl, h1⟩, if_neg h2]; simp)
            clear hdr
            have hrl := Lib.hid hrow
            clear hrow
            go_wp2_with (at_builtin; refine wpList_append_own _ rfl _ _ 33 rfl w.heap.size 2 i0 _ 1 8 Try.underlying33 hi hz0 hz1 hz2 rfl (by decide) _ _ _ rfl (hrl.out.alloc _) ⟨wr.heap.size, 0, none⟩ 1 1 [.int .i64 x] rfl rfl (news1 _ _ _) (one1 _) (by unfold maxLen; omega) (by omega) (by simp; omega) ?_)
            intro vq1 wq1 hownq1 hgrq1 hnilq1
            have hgqq1 := grown_trans (grown_below (below_a1 wr _) _) hgrq1
            clear hgrq1 hnilq1
            have hrel4 : Hid (wq1.ownsRow w.heap.size 2 1 vq1 (acc ++ [x]).length ((acc ++ [x]).flatMap intC) ∧ Below w.heap.size w wq1) := Lib.hid ⟨by rw [in_snoc, List.length_append]; exact hownq1, hbw.grown hgqq1 hwz (fun j hj => owns_ge3 hrl.out hj)⟩
            clear hownq1 hgqq1 hrl
            go_wp2
            go_roundw
            case rel => exact ⟨k + 1, true, acc ++ [x], by omega, by go_num, rfl, hrel4.out.2, hrel4.out.1, by simp at hal ⊢; omega, hnx.out⟩
            case measure => simp [intOf]; omega
        · have g1 : decide (m ≤ x) = false := decide_eq_false h1
          have hnx : Hid (p = (acc ++ [x]) ++ putI m false (xs.drop (k + 1))) := Lib.hid (by rw [he.out, hdr false, if_neg (fun q => h1 q.2)]; simp)
          clear hdr
          have hrl := Lib.hid hrow
          clear hrow
          go_wp2_with (at_builtin; refine wpList_append_own _ rfl _ _ 33 rfl w.heap.size 2 i0 _ 1 8 Try.underlying33 hi hz0 hz1 hz2 rfl (by decide) _ _ _ rfl (hrl.out.alloc _) ⟨wr.heap.size, 0, none⟩ 1 1 [.int .i64 x] rfl rfl (news1 _ _ _) (one1 _) (by unfold maxLen; omega) (by omega) (by simp; omega) ?_)
          intro vq2 wq2 hownq2 hgrq2 hnilq2
          have hgqq2 := grown_trans (grown_below (below_a1 wr _) _) hgrq2
          clear hgrq2 hnilq2
          have hrel4 : Hid (wq2.ownsRow w.heap.size 2 1 vq2 (acc ++ [x]).length ((acc ++ [x]).flatMap intC) ∧ Below w.heap.size w wq2) := Lib.hid ⟨by rw [in_snoc, List.length_append]; exact hownq2, hbw.grown hgqq2 hwz (fun j hj => owns_ge3 hrl.out hj)⟩
          clear hownq2 hgqq2 hrl
          go_wp2
          go_roundw
          case rel => exact ⟨k + 1, false, acc ++ [x], by omega, by go_num, rfl, hrel4.out.2, hrel4.out.1, by simp at hal ⊢; omega, hnx.out⟩
          case measure => simp [intOf]; omega
    · obtain rfl : k = n := by omega
      cases done with
      | true =>
        have hq : Hid (p = acc) := Lib.hid (by rw [he.out, List.drop_of_length_le (by rw [h.1]; omega)]; simp [putI])
        obtain ⟨A', c', rfl, hO⟩ := owns_in rfl hrow
        have hO2 := Lib.hid hO
        clear hO hrow
        go_wp2
        go_ret
        exact ⟨A', acc.length, ⟨c', rfl⟩, by rw [hq.out]; exact hO2.out, hbw⟩
      | false =>
        have hq : Hid (p = acc ++ [m]) := Lib.hid (by rw [he.out, List.drop_of_length_le (by rw [h.1]; omega)]; simp [putI])
        have hrl := Lib.hid hrow
        clear hrow
        go_wp2_with (at_builtin; refine wpList_append_own _ rfl _ _ 33 rfl w.heap.size 2 i0 _ 1 8 Try.underlying33 hi hz0 hz1 hz2 rfl (by decide) _ _ _ rfl (hrl.out.alloc _) ⟨wr.heap.size, 0, none⟩ 1 1 [.int .i64 m] rfl rfl (news1 _ _ _) (one1 _) (by unfold maxLen; omega) (by omega) (by simp; omega) ?_)
        intro vt2 wt2 hownt2 hgrt2 hnilt2
        have hgqt2 := grown_trans (grown_below (below_a1 wr _) _) hgrt2
        clear hgrt2 hnilt2
        have hb5 := Lib.hid (hbw.grown hgqt2 hwz (fun j hj => owns_ge3 hrl.out hj))
        obtain ⟨A', c', rfl, hO⟩ := owns_in (l := acc ++ [m]) rfl (by rw [in_snoc, List.length_append]; exact hownt2)
        have hO2 := Lib.hid hO
        clear hO hownt2 hgqt2 hrl
        go_wp2
        go_ret
        exact ⟨A', _, c', rfl, hq.out ▸ hO2.out, hb5.out⟩

theorem overR_no {l : List StruckD} (h : lineOk l = false) : overR l = ([], 1) := by simp [overR, h]
theorem overR_yes {l : List StruckD} (h : lineOk l = true) : overR l = (manyL l, 0) := by simp [overR, h]
set_option maxRecDepth 100000 in
set_option maxHeartbeats 4000000 in
theorem over_spec (A : Option Addr) (n c : Nat) (xs : List StruckD) (w : World) (h : Strucks w A n xs) (hn : n ≤ 1048576) (hx : ∀ x ∈ xs, x.good) :
    Calls Try.prog 11 #[.slice A n c] w fun e w' => ∃ A' n' c', e = .returned (.tuple #[.slice A' n' c', .int .i64 (overR xs).2]) ∧ n' ≤ 1048576 ∧ OInts w' w.heap.size A' n' (overR xs).1 ∧ Below w.heap.size w w' := by
  cases hl : lineOk xs with
  | false =>
    have hl1 := Lib.hid (fun W (hS : Strucks W A n xs) => line_spec A n c xs W hS hn hx hl)
    rw [overR_no hl]
    clear hl hx
    go_enter Try.func11, Try.ntmps11
    go_wp2_with fail
    refine (hl1.out _ h).mono ?_
    rintro e w1 ⟨rfl, hb1⟩
    go_wp2
    go_ret2
    exact ⟨none, 0, 0, rfl, by omega, .nil_, hb1⟩
  | true =>
    have hl1 := Lib.hid (fun W (hS : Strucks W A n xs) => line_spec A n c xs W hS hn hx hl)
    have hlen : n ≤ 200 := by rw [← h.1]; exact of_decide_eq_true (Bool.and_eq_true _ _ ▸ hl).2
    have hxl : xs.length = n := h.1
    have hmany := Lib.hid (fun (out : List Int) (hr : rising out) (hm : ∀ p, p ∈ out ↔ twice xs xs.length 0 p) => many_is (fun s hs => (line_mem hl s hs).1) hr hm)
    rw [overR_yes hl]
    generalize manyL xs = M at *
    clear hl hx
    go_enter Try.func11, Try.ntmps11
    go_wp2_with fail
    refine (hl1.out _ h).mono ?_
    rintro e w1 ⟨rfl, hb1⟩
    have hS := h.below hb1
    have hbb := Lib.hid hb1
    have hz1 := hb1.size
    clear h hb1 hl1
    go_wp2
    go_loopw [4, 5] (fun v iv wr => ∃ (i : Nat) (out : List Int) (A' : Option Addr) (c' : Nat), i ≤ n ∧ iv = .int .i64 i ∧ v = .slice A' out.length c' ∧ OInts wr w1.heap.size A' out.length out ∧ Below w1.heap.size w1 wr ∧ rising out ∧ (∀ p, p ∈ out ↔ twice xs i 0 p) ∧ out.length ≤ 200 * i) (fun _ iv _ => n - (intOf iv).toNat)
    case atStart =>
      obtain ⟨A', c', e', hO⟩ := owns_in (l := []) rfl (owns_nil w1 2)
      exact ⟨0, [], A', c', by omega, rfl, e', hO, below_a1 _ _, trivial, fun p => by simp [twice_zero], by simp⟩
    case round =>
      rename World => wo
      obtain ⟨i, out, A', c', hin, rfl, rfl, hO, hbo, hris, hmem, hol⟩ := hrel
      replace hmem := Lib.hid hmem
      replace hris := Lib.hid hris
      by_cases hlt : i < n
      · have hO0 := Lib.hid hO
        clear hO
        go_wp2
        go_loopw [4, 6] (fun v kv wi => ∃ (k : Nat) (out : List Int) (A' : Option Addr) (c' : Nat), k ≤ i ∧ kv = .int .i64 k ∧ v = .slice A' out.length c' ∧ OInts wi w1.heap.size A' out.length out ∧ Below w1.heap.size w1 wi ∧ rising out ∧ (∀ p, p ∈ out ↔ twice xs i k p) ∧ out.length ≤ 200 * i + k) (fun _ kv _ => i - (intOf kv).toNat)
        case atStart => exact ⟨0, out, A', c', by omega, rfl, rfl, hO0.out, hbo, hris.out, hmem.out, by omega⟩
        case round =>
          rename World => wi
          obtain ⟨k, out2, A2, c2, hki, rfl, rfl, hO2, hbi, hris2, hmem2, hol2⟩ := hrel
          replace hmem2 := Lib.hid hmem2
          replace hris2 := Lib.hid hris2
          have hO20 := Lib.hid hO2
          clear hO2
          by_cases hlk : k < i
          · obtain ⟨b, off, x, rfl, hb, hxs, cx0, cx1⟩ := struck_at (hS.below hbi) hlt
            obtain ⟨b', off', y, e', hb', hys, cy0, cy1⟩ := struck_at (hS.below hbi) (show k < n by omega)
            cases e'
            have hi0 : (0 : Int) ≤ (i : Int) := Int.natCast_nonneg _
            have hi1 : (i : Int) < (n : Int) := by omega
            have hk0 : (0 : Int) ≤ (k : Int) := Int.natCast_nonneg _
            have hk1 : (k : Int) < (n : Int) := by omega
            have hk2 : decide ((k : Int) < (i : Int)) = true := decide_eq_true (by omega)
            by_cases he : y.place = x.place
            · have g : (y.place == x.place) = true := by simpa using he
              have hmm := Lib.hid (twice_yes hlk hxs.out hys.out he)
              clear he
              go_wp2_with fail
              go_quiet (fail)
              have hO3 : OInts (wi.drewN nq) w1.heap.size A2 out2.length out2 := hO20.out
              have cx0w : (wi.drewN nq).cell? ⟨b, off + i * 2, none⟩ = some (.int .i64 x.place) := cx0
              have hbi3 : Below w1.heap.size w1 (wi.drewN nq) := below_drewN hbi nq
              have hbw3 : b < (wi.drewN nq).heap.size := hb
              generalize wi.drewN nq = w4 at *
              clear cx0 cx1 cy0 cy1
              go_wp2_with fail
              refine (put_spec A2 out2.length c2 out2 x.place w4 hO3.srow (by omega)).mono ?_
              rintro e w5 ⟨A3, n3, c3, rfl, hO4, hb4⟩
              have hln := hO4.1
              obtain rfl : (putI x.place false out2).length = n3 := hln
              have hO5 := Lib.hid (hO4.mono (b' := w1.heap.size) hbi3.size)
              have hb5 := Lib.hid (hbi3.step hb4)
              have hris3 := Lib.hid (putI_rising x.place out2 hris2.out)
              have hmem3 : Hid (∀ p, p ∈ putI x.place false out2 ↔ twice xs i (k + 1) p) := Lib.hid (fun p => by rw [putI_mem, hmm.out p, hmem2.out p])
              have hol3 : Hid ((putI x.place false out2).length ≤ 200 * i + (k + 1)) := Lib.hid (by have := putI_length x.place out2 false; omega)
              clear hO3 hO4 hb4 hbi3
              generalize putI x.place false out2 = out3 at *
              go_wp2
              go_roundw
              case rel => exact ⟨k + 1, out3, A3, c3, by omega, by go_num, rfl, hO5.out, hb5.out, hris3.out, hmem3.out, hol3.out⟩
              case measure => simp [intOf]; omega
            · have g : (y.place == x.place) = false := by simpa using he
              have hmm := Lib.hid (twice_no hxs.out hys.out he)
              clear he
              go_wp2_with fail
              go_quiet (fail)
              go_wp2
              go_roundw
              case rel => exact ⟨k + 1, out2, A2, c2, by omega, by go_num, rfl, hO20.out, below_drewN hbi _, hris2.out, fun p => (hmem2.out p).trans (hmm.out p).symm, by omega⟩
              case measure => simp [intOf]; omega
          · obtain rfl : k = i := by omega
            have hk2 : decide ((k : Int) < (k : Int)) = false := decide_eq_false (by omega)
            go_wp2
            go_roundw
            case rel => exact ⟨k + 1, out2, A2, c2, by omega, by go_num, rfl, hO20.out, hbi, hris2.out, fun p => (hmem2.out p).trans (twice_next xs k p).symm, by omega⟩
            case measure => simp [intOf]; omega
      · obtain rfl : i = n := by omega
        have hM : Hid (out = M) := Lib.hid (hmany.out out hris.out (by rw [hxl]; exact hmem.out))
        have hO2 := Lib.hid (hO.mono (b' := w.heap.size) hz1)
        clear hO
        go_wp2
        go_ret2
        exact ⟨A', out.length, c', rfl, by omega, by rw [← hM.out]; exact hO2.out, hbb.out.step hbo⟩
end Go.Proofs.Ytphhpmnigchooaa
