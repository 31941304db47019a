/- Racks that are drawn. -/
import Derived.Test.YtlmjoekiflnjgaaDrawn
import Derived.Test.YtlmjoekiflnjgaaOwn8
import Derived.Test.YtlmjoekiflnjgaaCat8
import Derived.Laws.OwnMore
namespace Go.Proofs.Ytlmjoekiflnjgaa
open Go.RowKit
set_option linter.unusedVariables false
set_option linter.unusedSimpArgs false

theorem good8 {x : Int} (h0 : -1 ≤ x) (h1 : x ≤ 1000) : intGood x := by
  simp [intGood, Lit.wf, IntKind.min, IntKind.max, IntKind.signed, IntKind.bits]
  omega
theorem good8_among {x : Int} (h : x ∈ ([-1, 0, 119, 120] : List Int)) : intGood x := by
  simp only [List.mem_cons, List.not_mem_nil, or_false] at h
  rcases h with rfl | rfl | rfl | rfl <;> exact good8 (by omega) (by omega)
theorem good8_snoc {L : List Int} {a : Int} (h : ∀ x ∈ L, intGood x) (ha : intGood a) : ∀ x ∈ L ++ [a], intGood x := fun x hx => by
  rcases List.mem_append.1 hx with h1 | h1
  · exact h x h1
  · rw [List.mem_singleton] at h1
    subst h1
    exact ha
theorem snocI8 (L : List Int) (a : Int) : (L ++ [a]).flatMap intC = L.flatMap intC ++ [.int .i64 a] := by simp [intC]
theorem empty8 (w : World) (E : TypeId) : (w.alloc (.cells #[] E)).ownsRow w.heap.size E 1 (.slice (some ⟨w.heap.size, 0, none⟩) 0 0) 0 [] := by
  have := World.ownsRow_lit (w := w) (e := E) (base := w.heap.size) (size := 1) #[] 0 (Nat.le_refl _) (by simp [maxLen]) (by simp)
  simpa using this
theorem Drawn.down {r N M : Nat} {x y : World} (h : Drawn r M x y) (hN : N ≤ M) : Drawn r N x y := ⟨h.os, h.tape, h.output, h.size, fun k h1 h2 => h.block k (by omega) h2⟩
theorem among4 (w : World) (T : TypeId) : Ints (w.alloc (.cells #[.int .i64 (-1), .int .i64 0, .int .i64 119, .int .i64 120] T)) (some ⟨w.heap.size, 0, none⟩) 4 [-1, 0, 119, 120] := ints_lit w [-1, 0, 119, 120] T 4 rfl
/-- A rack that is drawn. -/
def RkOut (r t : Nat) (w : World) (e : Ending) (w' : World) : Prop :=
  ∃ A n c xs, e = .returned (.slice A n c) ∧ n ≤ 14 ∧ n ≤ c ∧ OInts w' w.heap.size A n xs ∧ (∀ x ∈ xs, intGood x) ∧ SrcAt w' r (t + 80) ∧ Drawn r w.heap.size w w'

set_option maxRecDepth 100000 in
set_option maxHeartbeats 4000000 in
theorem l08draw_any (r t : Nat) (w : World) (h : SrcAt w r t) (ht : t ≤ 1000000) :
    Calls Try.prog 35 #[.pointer (some ⟨r, 0, none⟩)] w (RkOut r t w) := by
  obtain ⟨i0, hi, hz0, hz1, hz2⟩ := info_parts Try.infoI64
  have hrl := h.lt
  have hble := below_a1 w (.cells #[] 2)
  have hse := h.below hble
  have hown := empty8 w 2
  have hde : Drawn r w.heap.size w (w.alloc (.cells #[] 2)) := (Drawn.refl r w.heap.size w).below hble (Nat.le_refl _)
  have hzl := hble.size
  go_enter Try.func35, Try.ntmps35
  go_wp2_with fail
  generalize w.alloc (.cells #[] 2) = w1 at *
  clear hble
  refine (pick_any r t 9 w1 hse (by omega) (by omega)).mono ?_
  rintro e w2 ⟨x1, rfl, l1, u1, _, hs2, hg2⟩
  replace u1 := u1 (by omega)
  have hown2 := owns_past hown hg2 (by omega)
  have hd2 := hde.pick hg2 (by omega)
  have hz2' := hd2.size
  have hp2 := Lib.hid (pick_any r (t + 2) 6 w2 hs2 (by omega) (by omega))
  clear hown hse hde hg2
  go_wp2_with fail
  refine hp2.out.mono ?_
  rintro e w3 ⟨x2, rfl, l2, u2, _, hs3, hg3⟩
  replace u2 := u2 (by omega)
  have hown3 := owns_past hown2 hg3 (by omega)
  have hd3 := hd2.pick hg3 (by omega)
  have hz3' := hd3.size
  have hp3 := Lib.hid (one_any r (t + 2 + 2) 16 w3 hs3 (by omega) (by omega))
  clear hown2 hs2 hd2 hp2 hg3
  go_wp2_with fail
  refine hp3.out.mono ?_
  rintro e w4 ⟨b, rfl, hs4, hg4⟩
  have hown4 := owns_past hown3 hg4 (by omega)
  have hd4 := hd3.pick hg4 (by omega)
  have hz4' := hd4.size
  clear hown3 hs3 hd3 hp3 hg4
  cases b with
  | false =>
    go_wp2
    go_loopw [3, 4, 6] (fun v av kv wr => ∃ (L : List Int) (k : Nat) (a : Int), kv = .int .i64 (k : Int) ∧ L.length + k ≤ 13 ∧ av = .int .i64 a ∧ 0 ≤ a ∧ a ≤ 8 + 9 * (L.length : Int) ∧ (∀ x ∈ L, intGood x) ∧ wr.ownsRow w.heap.size 2 1 v L.length (L.flatMap intC) ∧ SrcAt wr r (t + 8 + 2 * L.length) ∧ Drawn r w.heap.size w wr) (fun _ _ kv _ => (intOf kv).toNat)
    case atStart =>
      obtain ⟨k2, hk2⟩ : ∃ k : Nat, x2 = (k : Int) := ⟨(x2).toNat, by omega⟩
      exact ⟨[], k2, x1, by rw [hk2], by simp; omega, rfl, l1, by simp; omega, (fun _ h => by cases h), hown4, hs4.mono (by simp), hd4⟩
    case round =>
      rename World => wr
      obtain ⟨L, k, a, rfl, hLk, rfl, ha0, ha1, hgd, hrow, hs, hd⟩ := hrel
      have hwz := hd.size
      replace hgd := Lib.hid hgd
      by_cases hk : 0 < k
      · have hg : decide ((0 : Int) < (k : Int)) = true := decide_eq_true (by omega)
        have hln : Hid ((L ++ [a] : List Int).length = L.length + 1) := Lib.hid (by simp)
        have hgd2 : Hid (∀ x ∈ L ++ [a], intGood x) := Lib.hid (good8_snoc hgd.out (good8 (by omega) (by omega)))
        have hfl := Lib.hid (snocI8 L a)
        replace hs := Lib.hid hs
        replace hd := Lib.hid hd
        have hL13 : L.length ≤ 13 := by omega
        generalize hpn : L.length = pn at *
        have hroq5 := Lib.hid hrow.lt
        have hbq5 := below_a1 wr (.cells #[.int .i64 a] 2)
        have hbq5 := Lib.hid hbq5
        have hrl5 := Lib.hid hrow
        clear hrow
        go_wp2_with (at_builtin; refine wpList_append_own _ rfl _ _ 24 rfl w.heap.size 2 i0 _ 1 8 Try.underlying24 hi hz0 hz1 hz2 rfl (by decide) _ _ _ rfl (hrl5.out.alloc _) ⟨wr.heap.size, 0, none⟩ 1 1 [.int .i64 a] rfl rfl (news8 _ _ _) (one8 _) (by unfold maxLen; omega) (by omega) (by simp; omega) ?_)
        intro vq5 wq5 hownq5 hgrq5 hnilq5
        clear hnilq5
        have hs5 := (hs.out.below hbq5.out).grownO hgrq5 (fun q hq => by have := (hroq5.out q hq).1; omega)
        have hd5 := (hd.out.below hbq5.out (by omega)).youngO hgrq5 (by simp; omega) (fun q hq => (hroq5.out q hq).1)
        have hz5 := hd5.size
        have hp5 := Lib.hid (pick_any r (t + 8 + 2 * pn) 9 wq5 hs5 (by omega) (by omega))
        replace hd5 := Lib.hid hd5
        replace hownq5 := Lib.hid hownq5
        clear hgrq5 hbq5 hs5 hs hd
        go_wp2_with fail
        refine hp5.out.mono ?_
        rintro e w6 ⟨z, rfl, z0, z1, _, hs6, hg6⟩
        replace z1 := z1 (by omega)
        have hm1 : IntKind.i64.wrap (1 + z) = 1 + z := IntWalk.i64_in _ (by omega)
        have hma : IntKind.i64.wrap (a + (1 + z)) = a + (1 + z) := IntWalk.i64_in _ (by omega)
        have hrow6 : Hid (w6.ownsRow w.heap.size 2 1 vq5 (L ++ [a] : List Int).length ((L ++ [a] : List Int).flatMap intC)) := Lib.hid (by
          rw [hln.out, hfl.out]
          exact owns_past hownq5.out hg6 (by omega))
        have hd6 := Lib.hid (hd5.out.pick hg6 (by omega))
        have hs7 : Hid (SrcAt w6 r (t + 8 + 2 * (L ++ [a] : List Int).length)) := Lib.hid (hs6.mono (by rw [hln.out]; omega))
        have hl7 : Hid ((L ++ [a] : List Int).length + (k - 1) ≤ 13 ∧ a + (1 + z) ≤ 8 + 9 * ((L ++ [a] : List Int).length : Int)) := Lib.hid (by rw [hln.out]; omega)
        clear hs6 hg6 hp5
        go_wp2
        go_roundw
        case rel => exact ⟨L ++ [a], k - 1, a + (1 + z), by rw [Int.natCast_sub (by omega)]; rfl, hl7.out.1, rfl, by omega, hl7.out.2, hgd2.out, hrow6.out, hs7.out, hd6.out⟩
        case measure => simp [intOf]; omega
      · obtain rfl : k = 0 := by omega
        have hg : decide ((0 : Int) < ((0 : Nat) : Int)) = false := rfl
        have hL13 : L.length ≤ 13 := by omega
        have hp7 := Lib.hid (one_any r (t + 8 + 2 * L.length) 16 wr hs (by omega) (by omega))
        replace hd := Lib.hid hd
        replace hrow := Lib.hid hrow
        clear hs
        go_wp2_with fail
        refine hp7.out.mono ?_
        rintro e w8 ⟨b, rfl, hs8, hg8⟩
        have hrow8 := owns_past hrow.out hg8 (by omega)
        have hd8 := hd.out.pick hg8 (by omega)
        have hz8 := hd8.size
        clear hp7 hg8 hrow hd
        cases b with
        | false =>
          obtain ⟨A, c, rfl, hO⟩ := owns_i8 rfl hrow8
          have hcap := cap8 hrow8
          have hs9 : Hid (SrcAt w8 r (t + 80)) := Lib.hid (hs8.mono (by omega))
          have hd9 := Lib.hid hd8
          have hO9 := Lib.hid hO
          clear hO hrow8 hs8 hd8
          go_wp2
          go_ret
          exact ⟨A, _, c, L, rfl, by omega, hcap, hO9.out, hgd.out, hs9.out, hd9.out⟩
        | true =>
          have hb4 := below_a1 w8 (.cells #[.int .i64 (-1), .int .i64 0, .int .i64 119, .int .i64 120] 2)
          have hI4 := among4 w8 2
          have hs9 := hs8.below hb4
          have hd9 := hd8.below hb4 (by omega)
          have hrow9 := hrow8.alloc (.cells #[.int .i64 (-1), .int .i64 0, .int .i64 119, .int .i64 120] 2)
          have hz9 := hd9.size
          have hne : ∀ p : Addr, (some ⟨w8.heap.size, 0, none⟩ : Option Addr) = some p → p.block ≠ r := fun p hp => by cases hp; simp only; omega
          have hp9 := Lib.hid (among_any r _ _ 4 4 _ _ hs9 (by omega) hI4 (by omega) (by omega) hne)
          replace hrow9 := Lib.hid hrow9
          replace hd9 := Lib.hid hd9
          clear hb4 hI4 hs9 hs8 hd8 hrow8 hne
          go_wp2_with fail
          refine hp9.out.mono ?_
          rintro e w10 ⟨z, hzm, rfl, hs10, hg10⟩
          have hzg := Lib.hid (good8_among hzm)
          have hrow10 := owns_past hrow9.out hg10 (by omega)
          have hd10 := hd9.out.pick hg10 (by omega)
          have hz10 := hd10.size
          have hln : Hid ((L ++ [z] : List Int).length = L.length + 1) := Lib.hid (by simp)
          have hgd2 : Hid (∀ x ∈ L ++ [z], intGood x) := Lib.hid (good8_snoc hgd.out hzg.out)
          have hfl := Lib.hid (snocI8 L z)
          replace hs10 := Lib.hid hs10
          replace hd10 := Lib.hid hd10
          clear hrow9 hd9 hg10 hp9 hzm
          generalize hpn : L.length = pn at *
          have hroq11 := Lib.hid hrow10.lt
          have hbq11 := below_a1 w10 (.cells #[.int .i64 z] 2)
          have hbq11 := Lib.hid hbq11
          have hrl11 := Lib.hid hrow10
          clear hrow10
          go_wp2_with (at_builtin; refine wpList_append_own _ rfl _ _ 24 rfl w.heap.size 2 i0 _ 1 8 Try.underlying24 hi hz0 hz1 hz2 rfl (by decide) _ _ _ rfl (hrl11.out.alloc _) ⟨w10.heap.size, 0, none⟩ 1 1 [.int .i64 z] rfl rfl (news8 _ _ _) (one8 _) (by unfold maxLen; omega) (by omega) (by simp; omega) ?_)
          intro vq11 wq11 hownq11 hgrq11 hnilq11
          clear hnilq11
          have hs11 := (hs10.out.below hbq11.out).grownO hgrq11 (fun q hq => by have := (hroq11.out q hq).1; omega)
          have hd11 := (hd10.out.below hbq11.out (by omega)).youngO hgrq11 (by simp; omega) (fun q hq => (hroq11.out q hq).1)
          have hrow11 : wq11.ownsRow w.heap.size 2 1 vq11 (L ++ [z] : List Int).length ((L ++ [z] : List Int).flatMap intC) := by
            rw [hln.out, hfl.out]
            exact hownq11
          obtain ⟨A, c, rfl, hO⟩ := owns_i8 rfl hrow11
          have hcap := cap8 hrow11
          have hl14 : Hid ((L ++ [z] : List Int).length ≤ 14) := Lib.hid (by rw [hln.out]; omega)
          have hs12 : Hid (SrcAt wq11 r (t + 80)) := Lib.hid (hs11.mono (by omega))
          have hd12 := Lib.hid hd11
          have hO12 := Lib.hid hO
          replace hcap := Lib.hid hcap
          clear hO hrow11 hs11 hd11 hownq11 hgrq11
          go_wp2
          go_ret
          exact ⟨A, _, c, L ++ [z], rfl, hl14.out, hcap.out, hO12.out, hgd2.out, hs12.out, hd12.out⟩
  | true =>
    have hp5 := Lib.hid (pick_any r (t + 2 + 2 + 2) 2 w4 hs4 (by omega) (by omega))
    clear hs4
    go_wp2_with fail
    refine hp5.out.mono ?_
    rintro e w5 ⟨x3, rfl, l3, u3, _, hs5, hg5⟩
    replace u3 := u3 (by omega)
    have hown5 := owns_past hown4 hg5 (by omega)
    have hd5 := hd4.pick hg5 (by omega)
    have hz5' := hd5.size
    have hw12 : IntKind.i64.wrap (12 + x3) = 12 + x3 := IntWalk.i64_in _ (by omega)
    clear hown4 hd4 hg5 hp5
    go_wp2
    go_loopw [3, 4, 6] (fun v av kv wr => ∃ (L : List Int) (k : Nat) (a : Int), kv = .int .i64 (k : Int) ∧ L.length + k ≤ 13 ∧ av = .int .i64 a ∧ 0 ≤ a ∧ a ≤ 8 + 9 * (L.length : Int) ∧ (∀ x ∈ L, intGood x) ∧ wr.ownsRow w.heap.size 2 1 v L.length (L.flatMap intC) ∧ SrcAt wr r (t + 8 + 2 * L.length) ∧ Drawn r w.heap.size w wr) (fun _ _ kv _ => (intOf kv).toNat)
    case atStart =>
      obtain ⟨k2, hk2⟩ : ∃ k : Nat, (12 + x3) = (k : Int) := ⟨((12 + x3)).toNat, by omega⟩
      exact ⟨[], k2, x1, by rw [hk2], by simp; omega, rfl, l1, by simp; omega, (fun _ h => by cases h), hown5, hs5.mono (by simp), hd5⟩
    case round =>
      rename World => wr
      obtain ⟨L, k, a, rfl, hLk, rfl, ha0, ha1, hgd, hrow, hs, hd⟩ := hrel
      have hwz := hd.size
      replace hgd := Lib.hid hgd
      by_cases hk : 0 < k
      · have hg : decide ((0 : Int) < (k : Int)) = true := decide_eq_true (by omega)
        have hln : Hid ((L ++ [a] : List Int).length = L.length + 1) := Lib.hid (by simp)
        have hgd2 : Hid (∀ x ∈ L ++ [a], intGood x) := Lib.hid (good8_snoc hgd.out (good8 (by omega) (by omega)))
        have hfl := Lib.hid (snocI8 L a)
        replace hs := Lib.hid hs
        replace hd := Lib.hid hd
        have hL13 : L.length ≤ 13 := by omega
        generalize hpn : L.length = pn at *
        have hroq5 := Lib.hid hrow.lt
        have hbq5 := below_a1 wr (.cells #[.int .i64 a] 2)
        have hbq5 := Lib.hid hbq5
        have hrl5 := Lib.hid hrow
        clear hrow
        go_wp2_with (at_builtin; refine wpList_append_own _ rfl _ _ 24 rfl w.heap.size 2 i0 _ 1 8 Try.underlying24 hi hz0 hz1 hz2 rfl (by decide) _ _ _ rfl (hrl5.out.alloc _) ⟨wr.heap.size, 0, none⟩ 1 1 [.int .i64 a] rfl rfl (news8 _ _ _) (one8 _) (by unfold maxLen; omega) (by omega) (by simp; omega) ?_)
        intro vq5 wq5 hownq5 hgrq5 hnilq5
        clear hnilq5
        have hs5 := (hs.out.below hbq5.out).grownO hgrq5 (fun q hq => by have := (hroq5.out q hq).1; omega)
        have hd5 := (hd.out.below hbq5.out (by omega)).youngO hgrq5 (by simp; omega) (fun q hq => (hroq5.out q hq).1)
        have hz5 := hd5.size
        have hp5 := Lib.hid (pick_any r (t + 8 + 2 * pn) 9 wq5 hs5 (by omega) (by omega))
        replace hd5 := Lib.hid hd5
        replace hownq5 := Lib.hid hownq5
        clear hgrq5 hbq5 hs5 hs hd
        go_wp2_with fail
        refine hp5.out.mono ?_
        rintro e w6 ⟨z, rfl, z0, z1, _, hs6, hg6⟩
        replace z1 := z1 (by omega)
        have hm1 : IntKind.i64.wrap (1 + z) = 1 + z := IntWalk.i64_in _ (by omega)
        have hma : IntKind.i64.wrap (a + (1 + z)) = a + (1 + z) := IntWalk.i64_in _ (by omega)
        have hrow6 : Hid (w6.ownsRow w.heap.size 2 1 vq5 (L ++ [a] : List Int).length ((L ++ [a] : List Int).flatMap intC)) := Lib.hid (by
          rw [hln.out, hfl.out]
          exact owns_past hownq5.out hg6 (by omega))
        have hd6 := Lib.hid (hd5.out.pick hg6 (by omega))
        have hs7 : Hid (SrcAt w6 r (t + 8 + 2 * (L ++ [a] : List Int).length)) := Lib.hid (hs6.mono (by rw [hln.out]; omega))
        have hl7 : Hid ((L ++ [a] : List Int).length + (k - 1) ≤ 13 ∧ a + (1 + z) ≤ 8 + 9 * ((L ++ [a] : List Int).length : Int)) := Lib.hid (by rw [hln.out]; omega)
        clear hs6 hg6 hp5
        go_wp2
        go_roundw
        case rel => exact ⟨L ++ [a], k - 1, a + (1 + z), by rw [Int.natCast_sub (by omega)]; rfl, hl7.out.1, rfl, by omega, hl7.out.2, hgd2.out, hrow6.out, hs7.out, hd6.out⟩
        case measure => simp [intOf]; omega
      · obtain rfl : k = 0 := by omega
        have hg : decide ((0 : Int) < ((0 : Nat) : Int)) = false := rfl
        have hL13 : L.length ≤ 13 := by omega
        have hp7 := Lib.hid (one_any r (t + 8 + 2 * L.length) 16 wr hs (by omega) (by omega))
        replace hd := Lib.hid hd
        replace hrow := Lib.hid hrow
        clear hs
        go_wp2_with fail
        refine hp7.out.mono ?_
        rintro e w8 ⟨b, rfl, hs8, hg8⟩
        have hrow8 := owns_past hrow.out hg8 (by omega)
        have hd8 := hd.out.pick hg8 (by omega)
        have hz8 := hd8.size
        clear hp7 hg8 hrow hd
        cases b with
        | false =>
          obtain ⟨A, c, rfl, hO⟩ := owns_i8 rfl hrow8
          have hcap := cap8 hrow8
          have hs9 : Hid (SrcAt w8 r (t + 80)) := Lib.hid (hs8.mono (by omega))
          have hd9 := Lib.hid hd8
          have hO9 := Lib.hid hO
          clear hO hrow8 hs8 hd8
          go_wp2
          go_ret
          exact ⟨A, _, c, L, rfl, by omega, hcap, hO9.out, hgd.out, hs9.out, hd9.out⟩
        | true =>
          have hb4 := below_a1 w8 (.cells #[.int .i64 (-1), .int .i64 0, .int .i64 119, .int .i64 120] 2)
          have hI4 := among4 w8 2
          have hs9 := hs8.below hb4
          have hd9 := hd8.below hb4 (by omega)
          have hrow9 := hrow8.alloc (.cells #[.int .i64 (-1), .int .i64 0, .int .i64 119, .int .i64 120] 2)
          have hz9 := hd9.size
          have hne : ∀ p : Addr, (some ⟨w8.heap.size, 0, none⟩ : Option Addr) = some p → p.block ≠ r := fun p hp => by cases hp; simp only; omega
          have hp9 := Lib.hid (among_any r _ _ 4 4 _ _ hs9 (by omega) hI4 (by omega) (by omega) hne)
          replace hrow9 := Lib.hid hrow9
          replace hd9 := Lib.hid hd9
          clear hb4 hI4 hs9 hs8 hd8 hrow8 hne
          go_wp2_with fail
          refine hp9.out.mono ?_
          rintro e w10 ⟨z, hzm, rfl, hs10, hg10⟩
          have hzg := Lib.hid (good8_among hzm)
          have hrow10 := owns_past hrow9.out hg10 (by omega)
          have hd10 := hd9.out.pick hg10 (by omega)
          have hz10 := hd10.size
          have hln : Hid ((L ++ [z] : List Int).length = L.length + 1) := Lib.hid (by simp)
          have hgd2 : Hid (∀ x ∈ L ++ [z], intGood x) := Lib.hid (good8_snoc hgd.out hzg.out)
          have hfl := Lib.hid (snocI8 L z)
          replace hs10 := Lib.hid hs10
          replace hd10 := Lib.hid hd10
          clear hrow9 hd9 hg10 hp9 hzm
          generalize hpn : L.length = pn at *
          have hroq11 := Lib.hid hrow10.lt
          have hbq11 := below_a1 w10 (.cells #[.int .i64 z] 2)
          have hbq11 := Lib.hid hbq11
          have hrl11 := Lib.hid hrow10
          clear hrow10
          go_wp2_with (at_builtin; refine wpList_append_own _ rfl _ _ 24 rfl w.heap.size 2 i0 _ 1 8 Try.underlying24 hi hz0 hz1 hz2 rfl (by decide) _ _ _ rfl (hrl11.out.alloc _) ⟨w10.heap.size, 0, none⟩ 1 1 [.int .i64 z] rfl rfl (news8 _ _ _) (one8 _) (by unfold maxLen; omega) (by omega) (by simp; omega) ?_)
          intro vq11 wq11 hownq11 hgrq11 hnilq11
          clear hnilq11
          have hs11 := (hs10.out.below hbq11.out).grownO hgrq11 (fun q hq => by have := (hroq11.out q hq).1; omega)
          have hd11 := (hd10.out.below hbq11.out (by omega)).youngO hgrq11 (by simp; omega) (fun q hq => (hroq11.out q hq).1)
          have hrow11 : wq11.ownsRow w.heap.size 2 1 vq11 (L ++ [z] : List Int).length ((L ++ [z] : List Int).flatMap intC) := by
            rw [hln.out, hfl.out]
            exact hownq11
          obtain ⟨A, c, rfl, hO⟩ := owns_i8 rfl hrow11
          have hcap := cap8 hrow11
          have hl14 : Hid ((L ++ [z] : List Int).length ≤ 14) := Lib.hid (by rw [hln.out]; omega)
          have hs12 : Hid (SrcAt wq11 r (t + 80)) := Lib.hid (hs11.mono (by omega))
          have hd12 := Lib.hid hd11
          have hO12 := Lib.hid hO
          replace hcap := Lib.hid hcap
          clear hO hrow11 hs11 hd11 hownq11 hgrq11
          go_wp2
          go_ret
          exact ⟨A, _, c, L ++ [z], rfl, hl14.out, hcap.out, hO12.out, hgd2.out, hs12.out, hd12.out⟩

/-- A rack and a column that are drawn. -/
def RkAsk (w : World) (e : Ending) (w' : World) : Prop :=
  ∃ A n c xs x, e = .returned (.tuple #[.slice A n c, .int .i64 x]) ∧ n ≤ 14 ∧ n ≤ c ∧ Ints w' A n xs ∧ (∀ x ∈ xs, intGood x) ∧ intGood x ∧ Below w.heap.size w w'
set_option maxRecDepth 100000 in
set_option maxHeartbeats 4000000 in
theorem l08ask_any (A0 : Option Addr) (n0 c0 : Nat) (ys : List Int) (w : World) (hn0 : n0 ≤ maxLen) (h : Bytes w A0 n0 ys) (hg0 : ∀ x ∈ ys, byteGood x) :
    Calls Try.prog 20 #[.slice A0 n0 c0] w (RkAsk w) := by
  have hfr := Lib.hid (from_any A0 n0 c0 ys w hn0 h hg0)
  clear h hg0 hn0
  go_enter Try.func20, Try.ntmps20
  go_wp2_with fail
  refine hfr.out.mono ?_
  rintro e w1 ⟨rfl, hs1, hb1⟩
  have hz1 := hs1.lt
  have hdr := Lib.hid (l08draw_any _ 0 w1 hs1 (by omega))
  clear hfr hs1
  go_wp2_with fail
  refine hdr.out.mono ?_
  rintro e w2 ⟨A, n, c, xs, rfl, hn, hcap, hO, hgd, hs2, hd2⟩
  replace hs2 := hs2.mono (show 0 + 80 ≤ 80 by omega)
  have hd02 : Drawn w.heap.size w.heap.size w w2 := (show Drawn w.heap.size w.heap.size w w1 from ⟨hb1.os, hb1.tape, hb1.output, hb1.size, fun k h1 _ => hb1.block k h1⟩).trans (hd2.down (by omega))
  have hne : ∀ p, A = some p → p.block ≠ w.heap.size := fun p hp => by have := hO.own p hp; omega
  have hI2 := hO.srow
  have hz2 := hd2.size
  have hp2 := Lib.hid (one_any _ 80 10 w2 hs2 (by omega) (by omega))
  replace hgd := Lib.hid hgd
  replace hne := Lib.hid hne
  clear hdr hO hb1 hd2 hs2
  go_wp2_with fail
  refine hp2.out.mono ?_
  rintro e w3 ⟨b, rfl, hs3, hg3⟩
  have hI3 := hI2.youngR hg3 (fun p hp q => hne.out p hp (Option.some.inj q).symm)
  have hd03 := hd02.pick hg3 (by omega)
  have hz3 := hd03.size
  have hz32 := hg3.size
  clear hI2 hd02 hp2 hg3
  cases b with
  | true =>
    have hb4 := below_a1 w3 (.cells #[.int .i64 (-1), .int .i64 0, .int .i64 119, .int .i64 120] 2)
    have hI4 := among4 w3 2
    have hs4 := hs3.below hb4
    have hd4 := hd03.below hb4 (by omega)
    have hI5 := hI3.below hb4
    have hz4 := hb4.size
    have hne4 : ∀ p : Addr, (some ⟨w3.heap.size, 0, none⟩ : Option Addr) = some p → p.block ≠ w.heap.size := fun p hp => by cases hp; simp only; omega
    have hp4 := Lib.hid (among_any _ _ _ 4 4 _ _ hs4 (by omega) hI4 (by omega) (by omega) hne4)
    replace hI5 := Lib.hid hI5
    replace hd4 := Lib.hid hd4
    clear hb4 hI4 hs4 hs3 hd03 hI3 hne4
    go_wp2_with fail
    refine hp4.out.mono ?_
    rintro e w5 ⟨z, hzm, rfl, hs5, hg5⟩
    have hI6 := Lib.hid (hI5.out.youngR hg5 (fun p hp q => hne.out p hp (Option.some.inj q).symm))
    have hd6 := Lib.hid ((hd4.out.pick hg5 (by omega)).own (Nat.le_refl _))
    have hzg := Lib.hid (good8_among hzm)
    clear hs5 hg5 hI5 hd4 hp4 hzm
    go_wp2
    go_ret2
    exact ⟨A, n, c, xs, z, rfl, hn, hcap, hI6.out, hgd.out, hzg.out, hd6.out⟩
  | false =>
    by_cases hpos : 0 < n
    · have hgt : decide ((0 : Int) < (n : Int)) = true := decide_eq_true (by omega)
      have hp4 := Lib.hid (one_any _ _ 3 w3 hs3 (by omega) (by omega))
      clear hs3
      go_wp2_with fail
      refine hp4.out.mono ?_
      rintro e w4 ⟨b, rfl, hs4, hg4⟩
      have hI4 := hI3.youngR hg4 (fun p hp q => hne.out p hp (Option.some.inj q).symm)
      have hd4 := hd03.pick hg4 (by omega)
      have hz4 := hg4.size
      clear hI3 hd03 hp4 hg4
      cases b with
      | true =>
        have hp5 := Lib.hid (among_any _ _ A n c xs w4 hs4 (by omega) hI4 hpos (by omega) hne.out)
        replace hI4 := Lib.hid hI4
        replace hd4 := Lib.hid hd4
        clear hs4
        go_wp2_with fail
        refine hp5.out.mono ?_
        rintro e w5 ⟨z, hzm, rfl, hs5, hg5⟩
        have hI6 := Lib.hid (hI4.out.youngR hg5 (fun p hp q => hne.out p hp (Option.some.inj q).symm))
        have hd6 := Lib.hid ((hd4.out.pick hg5 (by omega)).own (Nat.le_refl _))
        have hzg := Lib.hid (hgd.out z hzm)
        clear hs5 hg5 hI4 hd4 hp5 hzm
        go_wp2
        go_ret2
        exact ⟨A, n, c, xs, z, rfl, hn, hcap, hI6.out, hgd.out, hzg.out, hd6.out⟩
      | false =>
        have hp5 := Lib.hid (pick_any _ _ 50 w4 hs4 (by omega) (by omega))
        replace hI4 := Lib.hid hI4
        replace hd4 := Lib.hid hd4
        clear hs4
        go_wp2_with fail
        refine hp5.out.mono ?_
        rintro e w5 ⟨z, rfl, z0, z1, _, hs5, hg5⟩
        replace z1 := z1 (by omega)
        have hI6 := Lib.hid (hI4.out.youngR hg5 (fun p hp q => hne.out p hp (Option.some.inj q).symm))
        have hd6 := Lib.hid ((hd4.out.pick hg5 (by omega)).own (Nat.le_refl _))
        have hzg : Hid (intGood z) := Lib.hid (good8 (by omega) (by omega))
        clear hs5 hg5 hI4 hd4 hp5
        go_wp2
        go_ret2
        exact ⟨A, n, c, xs, z, rfl, hn, hcap, hI6.out, hgd.out, hzg.out, hd6.out⟩
    · have hgt : decide ((0 : Int) < (n : Int)) = false := decide_eq_false (by omega)
      have hp5 := Lib.hid (pick_any _ _ 50 w3 hs3 (by omega) (by omega))
      replace hI3 := Lib.hid hI3
      replace hd03 := Lib.hid hd03
      clear hs3
      go_wp2_with fail
      refine hp5.out.mono ?_
      rintro e w5 ⟨z, rfl, z0, z1, _, hs5, hg5⟩
      replace z1 := z1 (by omega)
      have hI6 := Lib.hid (hI3.out.youngR hg5 (fun p hp q => hne.out p hp (Option.some.inj q).symm))
      have hd6 := Lib.hid ((hd03.out.pick hg5 (by omega)).own (Nat.le_refl _))
      have hzg : Hid (intGood z) := Lib.hid (good8 (by omega) (by omega))
      clear hs5 hg5 hI3 hd03 hp5
      go_wp2
      go_ret2
      exact ⟨A, n, c, xs, z, rfl, hn, hcap, hI6.out, hgd.out, hzg.out, hd6.out⟩
theorem dset_any (A0 : Option Addr) (n0 c0 : Nat) (ys : List Int) (w : World) (hn0 : n0 ≤ maxLen) (h : Bytes w A0 n0 ys) (hg0 : ∀ x ∈ ys, byteGood x) :
    Calls Try.prog 5 #[.slice A0 n0 c0] w (RkAsk w) := by
  have hc := Lib.hid (l08ask_any A0 n0 c0 ys w hn0 h hg0)
  clear h hg0 hn0
  go_enter Try.func5, Try.ntmps5
  go_wp2_with fail
  refine hc.out.mono ?_
  rintro e w1 ⟨A, n, c, xs, x, rfl, hn, hcap, hI, hgd, hx, hb⟩
  replace hI := Lib.hid hI
  replace hgd := Lib.hid hgd
  replace hx := Lib.hid hx
  clear hc
  go_wp2
  go_ret2
  exact ⟨A, n, c, xs, x, rfl, hn, hcap, hI.out, hgd.out, hx.out, hb⟩
theorem dclear_any (A0 : Option Addr) (n0 c0 : Nat) (ys : List Int) (w : World) (hn0 : n0 ≤ maxLen) (h : Bytes w A0 n0 ys) (hg0 : ∀ x ∈ ys, byteGood x) :
    Calls Try.prog 8 #[.slice A0 n0 c0] w (RkAsk w) := by
  have hc := Lib.hid (l08ask_any A0 n0 c0 ys w hn0 h hg0)
  clear h hg0 hn0
  go_enter Try.func8, Try.ntmps8
  go_wp2_with fail
  refine hc.out.mono ?_
  rintro e w1 ⟨A, n, c, xs, x, rfl, hn, hcap, hI, hgd, hx, hb⟩
  replace hI := Lib.hid hI
  replace hgd := Lib.hid hgd
  replace hx := Lib.hid hx
  clear hc
  go_wp2
  go_ret2
  exact ⟨A, n, c, xs, x, rfl, hn, hcap, hI.out, hgd.out, hx.out, hb⟩
theorem dnext_any (A0 : Option Addr) (n0 c0 : Nat) (ys : List Int) (w : World) (hn0 : n0 ≤ maxLen) (h : Bytes w A0 n0 ys) (hg0 : ∀ x ∈ ys, byteGood x) :
    Calls Try.prog 11 #[.slice A0 n0 c0] w (RkAsk w) := by
  have hc := Lib.hid (l08ask_any A0 n0 c0 ys w hn0 h hg0)
  clear h hg0 hn0
  go_enter Try.func11, Try.ntmps11
  go_wp2_with fail
  refine hc.out.mono ?_
  rintro e w1 ⟨A, n, c, xs, x, rfl, hn, hcap, hI, hgd, hx, hb⟩
  replace hI := Lib.hid hI
  replace hgd := Lib.hid hgd
  replace hx := Lib.hid hx
  clear hc
  go_wp2
  go_ret2
  exact ⟨A, n, c, xs, x, rfl, hn, hcap, hI.out, hgd.out, hx.out, hb⟩
end Go.Proofs.Ytlmjoekiflnjgaa
