/- Widths of columns that are drawn. -/
import Derived.Test.YtmgoidngecimbaaDrawn
import Derived.Test.YtmgoidngecimbaaOwn8
import Derived.Test.YtmgoidngecimbaaTblS
import Derived.Laws.OwnMore
namespace Go.Proofs.Ytmgoidngecimbaa
open Go.RowKit Go.ChangeShapes Go.WideShapes Go.Deep
set_option linter.unusedVariables false
set_option linter.unusedSimpArgs false

theorem good8 {x : Int} (h0 : -1 ≤ x) (h1 : x ≤ 1000) : intGood x := by
  simp [intGood, Lit.wf, IntKind.min, IntKind.max, IntKind.signed, IntKind.bits]
  omega
theorem good8_among {x : Int} (h : x ∈ ([-1, 0, 119, 120] : List Int)) : intGood x := by
  simp only [List.mem_cons, List.not_mem_nil, or_false] at h
  rcases h with rfl | rfl | rfl | rfl <;> exact good8 (by omega) (by omega)
theorem good8_snoc {L : List Int} {a : Int} (h : ∀ x ∈ L, intGood x) (ha : intGood a) : ∀ x ∈ L ++ [a], intGood x := fun x hx => by
  rcases List.mem_append.1 hx with h1 | h1
  · exact h x h1
  · rw [List.mem_singleton] at h1
    subst h1
    exact ha
theorem snocI8 (L : List Int) (a : Int) : (L ++ [a]).flatMap intC = L.flatMap intC ++ [.int .i64 a] := by simp [intC]
theorem empty8 (w : World) (E : TypeId) : (w.alloc (.cells #[] E)).ownsRow w.heap.size E 1 (.slice (some ⟨w.heap.size, 0, none⟩) 0 0) 0 [] := by
  have := World.ownsRow_lit (w := w) (e := E) (base := w.heap.size) (size := 1) #[] 0 (Nat.le_refl _) (by simp [maxLen]) (by simp)
  simpa using this
theorem Drawn.down {r N M : Nat} {x y : World} (h : Drawn r M x y) (hN : N ≤ M) : Drawn r N x y := ⟨h.os, h.tape, h.output, h.size, fun k h1 h2 => h.block k (by omega) h2⟩
theorem among4 (w : World) (T : TypeId) : Ints (w.alloc (.cells #[.int .i64 (-1), .int .i64 0, .int .i64 119, .int .i64 120] T)) (some ⟨w.heap.size, 0, none⟩) 4 [-1, 0, 119, 120] := ints_lit w [-1, 0, 119, 120] T 4 rfl

theorem lit8 (w : World) (T : TypeId) (xs : List Int) (n : Nat) (hn : xs.length = n) : Ints (w.alloc (.cells (xs.map (fun x => Value.int .i64 x)).toArray T)) (some ⟨w.heap.size, 0, none⟩) n xs := ints_lit w xs T n hn
theorem good8_min : intGood (-9223372036854775808) := by simp [intGood, Lit.wf, IntKind.min, IntKind.max, IntKind.signed, IntKind.bits]
theorem good8_set {xs : List Int} {i : Nat} {z : Int} (h : ∀ x ∈ xs, intGood x) (hz : intGood z) : ∀ x ∈ xs.set i z, intGood x := fun x hx => by
  rcases List.mem_or_eq_of_mem_set hx with h1 | rfl
  · exact h x h1
  · exact hz
theorem good8_zeros (n : Nat) : ∀ x ∈ List.replicate n (0 : Int), intGood x := fun x hx => by
  rw [(List.mem_replicate.1 hx).2]
  exact good8 (by omega) (by omega)
/-- Numbers that are drawn. -/
def NsOut (r t : Nat) (w : World) (e : Ending) (w' : World) : Prop :=
  ∃ A n c xs, e = .returned (.slice A n c) ∧ n ≤ 14 ∧ OInts w' w.heap.size A n xs ∧ (∀ x ∈ xs, intGood x) ∧ SrcAt w' r (t + 80) ∧ Drawn r w.heap.size w w'

set_option maxRecDepth 100000 in
set_option maxHeartbeats 4000000 in
theorem l08widths_any (r t : Nat) (w : World) (h : SrcAt w r t) (ht : t ≤ 1000000) :
    Calls Try.prog 42 #[.pointer (some ⟨r, 0, none⟩)] w (NsOut r t w) := by
  obtain ⟨i0, hi, hz0, hz1, hz2⟩ := info_parts Try.infoI64
  have hrl := h.lt
  have hble := below_a1 w (.cells #[] 2)
  have hse := h.below hble
  have hown := empty8 w 2
  have hde : Drawn r w.heap.size w (w.alloc (.cells #[] 2)) := (Drawn.refl r w.heap.size w).below hble (Nat.le_refl _)
  have hzl := hble.size
  have hmk : ∀ m : Nat, m ≤ 13 → ∀ W : World, _ := fun m hm W => run_make_many (P := Try.prog) 30 2 i0 _ Try.underlying30 hi hz0 .i64 .i64 m (by rw [hz2]; omega) (by omega) W
  simp only [hz1, Nat.mul_one] at hmk
  replace hmk := Lib.hid hmk
  go_enter Try.func42, Try.ntmps42
  go_wp2_with fail
  generalize w.alloc (.cells #[] 2) = w1 at *
  clear hble
  refine (pick_any r t 4 w1 hse (by omega) (by omega)).mono ?_
  rintro e w2 ⟨x1, rfl, l1, u1, _, hs2, hg2⟩
  replace u1 := u1 (by omega)
  have hown2 := owns_past hown hg2 (by omega)
  have hd2 := hde.pick hg2 (by omega)
  have hw1 : IntKind.i64.wrap (1 + x1) = 1 + x1 := IntWalk.i64_in _ (by omega)
  clear hown hse hde hg2
  go_wp2
  go_loopw [3, 4] (fun v kv wr => ∃ (L : List Int) (k : Nat), kv = .int .i64 (k : Int) ∧ L.length + k ≤ 4 ∧ 1 ≤ L.length + k ∧ (∀ x ∈ L, intGood x) ∧ wr.ownsRow w.heap.size 2 1 v L.length (L.flatMap intC) ∧ SrcAt wr r (t + 8 + 2 * L.length) ∧ Drawn r w.heap.size w wr) (fun _ kv _ => (intOf kv).toNat)
  case atStart =>
    obtain ⟨k2, hk2⟩ : ∃ k : Nat, 1 + x1 = (k : Int) := ⟨(1 + x1).toNat, by omega⟩
    exact ⟨[], k2, by rw [hk2], by simp; omega, by simp; omega, (fun _ h => by cases h), hown2, hs2.mono (by simp), hd2⟩
  case round =>
    rename World => wr
    obtain ⟨L, k, rfl, hLk, hL1, hgd, hrow, hs, hd⟩ := hrel
    have hwz := hd.size
    replace hgd := Lib.hid hgd
    by_cases hk : 0 < k
    · have hg : decide ((0 : Int) < (k : Int)) = true := decide_eq_true (by omega)
      have hp3 := Lib.hid (pick_any r (t + 8 + 2 * L.length) 20 wr hs (by omega) (by omega))
      replace hrow := Lib.hid hrow
      replace hd := Lib.hid hd
      clear hs
      go_wp2_with fail
      refine hp3.out.mono ?_
      rintro e w4 ⟨a, rfl, a0, a1, _, hs4, hg4⟩
      replace a1 := a1 (by omega)
      have hrow4 := owns_past hrow.out hg4 (by omega)
      have hd4 := Lib.hid (hd.out.pick hg4 (by omega))
      have hz4 := hd4.out.size
      replace hs4 := Lib.hid hs4
      have hln : Hid ((L ++ [a] : List Int).length = L.length + 1) := Lib.hid (by simp)
      have hgd2 : Hid (∀ x ∈ L ++ [a], intGood x) := Lib.hid (good8_snoc hgd.out (good8 (by omega) (by omega)))
      have hfl := Lib.hid (snocI8 L a)
      have hL13 : L.length ≤ 13 := by omega
      clear hg4 hp3 hrow hd
      generalize hpn : L.length = pn at *
      have hroq5 := Lib.hid hrow4.lt
      have hbq5 := below_a1 w4 (.cells #[.int .i64 a] 2)
      have hbq5 := Lib.hid hbq5
      have hrl5 := Lib.hid hrow4
      clear hrow4
      go_wp2_with (at_builtin; refine wpList_append_own _ rfl _ _ 30 rfl w.heap.size 2 i0 _ 1 8 Try.underlying30 hi hz0 hz1 hz2 rfl (by decide) _ _ _ rfl (hrl5.out.alloc _) ⟨w4.heap.size, 0, none⟩ 1 1 [.int .i64 a] rfl rfl (news8 _ _ _) (one8 _) (by unfold maxLen; omega) (by omega) (by simp; omega) ?_)
      intro vq5 wq5 hownq5 hgrq5 hnilq5
      clear hnilq5
      have hs5 := (hs4.out.below hbq5.out).grownO hgrq5 (fun q hq => by have := (hroq5.out q hq).1; omega)
      have hd5 := (hd4.out.below hbq5.out (by omega)).youngO hgrq5 (by simp; omega) (fun q hq => (hroq5.out q hq).1)
      have hrow5 : Hid (wq5.ownsRow w.heap.size 2 1 vq5 (L ++ [a] : List Int).length ((L ++ [a] : List Int).flatMap intC)) := Lib.hid (by
        rw [hln.out, hfl.out]
        exact hownq5)
      have hs7 : Hid (SrcAt wq5 r (t + 8 + 2 * (L ++ [a] : List Int).length)) := Lib.hid (hs5.mono (by rw [hln.out]; omega))
      have hl7 : Hid ((L ++ [a] : List Int).length + (k - 1) ≤ 4 ∧ 1 ≤ (L ++ [a] : List Int).length + (k - 1)) := Lib.hid (by rw [hln.out]; omega)
      replace hd5 := Lib.hid hd5
      clear hs5 hgrq5 hownq5
      go_wp2
      go_roundw
      case rel => exact ⟨L ++ [a], k - 1, by rw [Int.natCast_sub (by omega)]; rfl, hl7.out.1, hl7.out.2, hgd2.out, hrow5.out, hs7.out, hd5.out⟩
      case measure => simp [intOf]; omega
    · obtain rfl : k = 0 := by omega
      have hg : decide ((0 : Int) < ((0 : Nat) : Int)) = false := rfl
      have hp7 := Lib.hid (pick_any r (t + 8 + 2 * L.length) 16 wr hs (by omega) (by omega))
      replace hd := Lib.hid hd
      replace hrow := Lib.hid hrow
      clear hs
      go_wp2_with fail
      refine hp7.out.mono ?_
      rintro e w8 ⟨x, rfl, x0, _, _, hs8, hg8⟩
      have hrow8 := owns_past hrow.out hg8 (by omega)
      have hd8 := hd.out.pick hg8 (by omega)
      have hz8 := hd8.size
      replace hs8 := hs8.mono (show t + 8 + 2 * L.length + 2 ≤ t + 40 by omega)
      obtain ⟨A, c, rfl, hO⟩ := owns_i8 rfl hrow8
      have hln := Lib.hid (rfl : L.length = L.length)
      have hL13 : L.length ≤ 13 := by omega
      have hLp : 0 < L.length := by omega
      clear hp7 hg8 hrow hd hrow8 hLk hL1
      generalize hpn : L.length = n at *
      by_cases hx0 : x = 0
      · have g0 : (x == 0) = true := beq_iff_eq.2 hx0
        replace hx0 := Lib.hid hx0
        obtain ⟨g, rfl⟩ : ∃ g, A = some ⟨g, 0, none⟩ := by
          rcases hO with ⟨_, ⟨_, h0⟩ | ⟨g, m, f, h1, _⟩⟩
          · omega
          · exact ⟨g, h1⟩
        have hb4 := below_a1 w8 (.cells #[.int .i64 (-1), .int .i64 0, .int .i64 120, .int .i64 121, .int .i64 (-9223372036854775808)] 2)
        have hI4 : Ints (w8.alloc (.cells #[.int .i64 (-1), .int .i64 0, .int .i64 120, .int .i64 121, .int .i64 (-9223372036854775808)] 2)) (some ⟨w8.heap.size, 0, none⟩) 5 [-1, 0, 120, 121, -9223372036854775808] := lit8 w8 2 [-1, 0, 120, 121, -9223372036854775808] 5 rfl
        have hs9 := hs8.below hb4
        have hd9 := hd8.below hb4 (by omega)
        have hO9 := hO.below hb4
        have hz9 := hd9.size
        have hne : ∀ p : Addr, (some ⟨w8.heap.size, 0, none⟩ : Option Addr) = some p → p.block ≠ r := fun p hp => by cases hp; simp only; omega
        have hp9 := Lib.hid (among_any r _ _ 5 5 _ _ hs9 (by omega) hI4 (by omega) (by omega) hne)
        replace hO9 := Lib.hid hO9
        replace hd9 := Lib.hid hd9
        clear hb4 hI4 hs9 hs8 hd8 hO hne
        have hn0 : (0 : Int) < (n : Int) := by omega
        go_wp2_with fail
        refine hp9.out.mono ?_
        rintro e w10 ⟨z, hzm, rfl, hs10, hg10⟩
        have hzg : Hid (intGood z) := Lib.hid (by
          simp only [List.mem_cons, List.not_mem_nil, or_false] at hzm
          rcases hzm with rfl | rfl | rfl | rfl | rfl <;> first | exact good8 (by omega) (by omega) | exact good8_min)
        have hO10 : OInts w10 w.heap.size (some ⟨g, 0, none⟩) n L := hO9.out.block (fun p hp => hg10.block _ (by have := hO9.out.lt p hp; omega) (fun e => by have := hO9.out.own p hp; cases e; omega))
        have hd10 := hd9.out.pick hg10 (by omega)
        have hz10 := hd10.size
        obtain ⟨p0, p1, p2, p3⟩ := hO10.parts8 hLp
        have hput := Lib.hid (hO10.put8 z hLp)
        have hgg : w10.grownBy (w10.setCell ⟨g, 0, none⟩ (.int .i64 z)) (some g) := grown_set
        have hd11 := Lib.hid (hd10.young hgg (by omega) p3)
        have hs11 := Lib.hid ((hs10.grown hgg (by omega)).mono (show t + 40 + 2 ≤ t + 80 by omega))
        have hgd2 := Lib.hid (good8_set (i := 0) hgd.out hzg.out)
        clear hO9 hd9 hg10 hp9 hzm hO10 hd10 hs10 hgg
        go_wp2
        go_ret
        exact ⟨_, n, c, L.set 0 z, rfl, by omega, hput.out, hgd2.out, hs11.out, hd11.out⟩
      · have g0 : (x == 0) = false := beq_eq_false_iff_ne.2 hx0
        replace hx0 := Lib.hid hx0
        by_cases hx1 : x = 1
        · have g1 : (x == 1) = true := beq_iff_eq.2 hx1
          replace hx1 := Lib.hid hx1
          have hb4 := below_a1 w8 (.cells #[.int .i64 0, .int .i64 12, .int .i64 13] 2)
          have hI4 : Ints (w8.alloc (.cells #[.int .i64 0, .int .i64 12, .int .i64 13] 2)) (some ⟨w8.heap.size, 0, none⟩) 3 [0, 12, 13] := lit8 w8 2 [0, 12, 13] 3 rfl
          have hs9 := hs8.below hb4
          have hd9 := hd8.below hb4 (by omega)
          have hz9 := hd9.size
          have hne : ∀ p : Addr, (some ⟨w8.heap.size, 0, none⟩ : Option Addr) = some p → p.block ≠ r := fun p hp => by cases hp; simp only; omega
          have hp9 := Lib.hid (among_any r _ _ 3 3 _ _ hs9 (by omega) hI4 (by omega) (by omega) hne)
          replace hd9 := Lib.hid hd9
          clear hb4 hI4 hs9 hs8 hd8 hO hne
          go_wp2_with fail
          refine hp9.out.mono ?_
          rintro e w10 ⟨z, hzm, rfl, hs10, hg10⟩
          obtain ⟨m, hm, rfl⟩ : ∃ m : Nat, m ≤ 13 ∧ z = (m : Int) := by
            simp only [List.mem_cons, List.not_mem_nil, or_false] at hzm
            rcases hzm with rfl | rfl | rfl
            · exact ⟨0, by omega, rfl⟩
            · exact ⟨12, by omega, rfl⟩
            · exact ⟨13, by omega, rfl⟩
          have hmk2 := hmk.out m hm w10
          have hd10 := hd9.out.pick hg10 (by omega)
          have hz10 := hd10.size
          have hb11 := below_a1 w10 (.cells (madeCells #[.int .i64 0] m) 2)
          have hO11 := Lib.hid ((OInts.zeros8 w10 m).mono (show w.heap.size ≤ w10.heap.size by omega))
          have hd11 := Lib.hid (hd10.below hb11 (by omega))
          have hs11 := Lib.hid ((hs10.below hb11).mono (show t + 40 + 2 ≤ t + 80 by omega))
          clear hd9 hg10 hp9 hzm hd10 hs10 hb11
          go_wp2
          go_ret
          exact ⟨_, m, m, List.replicate m 0, rfl, by omega, by simpa using hO11.out, good8_zeros m, by simpa using hs11.out, by simpa using hd11.out⟩
        · have g1 : (x == 1) = false := beq_eq_false_iff_ne.2 hx1
          replace hx1 := Lib.hid hx1
          have hs9 := Lib.hid (hs8.mono (show t + 40 ≤ t + 80 by omega))
          have hd9 := Lib.hid hd8
          have hO9 := Lib.hid hO
          clear hs8 hd8 hO
          go_wp2
          go_ret
          exact ⟨A, n, c, L, rfl, by omega, hO9.out, hgd.out, hs9.out, hd9.out⟩
end Go.Proofs.Ytmgoidngecimbaa
