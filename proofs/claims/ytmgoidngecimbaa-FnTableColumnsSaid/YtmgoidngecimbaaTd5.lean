/- A table, its sides and a gap that are drawn. -/
import Derived.Test.YtmgoidngecimbaaTd4
import Derived.Test.YtmgoidngecimbaaTl0
namespace Go.Proofs.Ytmgoidngecimbaa
open Go.RowKit Go.ChangeShapes Go.WideShapes Go.Deep
set_option linter.unusedVariables false
set_option linter.unusedSimpArgs false

theorem shortT.good {T : List (List ByteArray)} (h : shortT T) : ∀ r ∈ T, sssGood r := fun r hr x hx => by
  have := (h r hr).1 x hx
  unfold strGood maxLen
  omega
def TlDraw (w : World) (e : Ending) (w' : World) : Prop :=
  ∃ A n c T s g, e = .returned (.tuple #[.slice A n c, .string s, .int .i64 g]) ∧ n ≤ 41 ∧ StrSS w' A n T ∧ (∀ r ∈ T, sssGood r) ∧ s.size ≤ 1048576 ∧ intGood g ∧ Below w.heap.size w w'
set_option maxRecDepth 100000 in
set_option maxHeartbeats 6400000 in
theorem dtable_any (A0 : Option Addr) (n0 c0 : Nat) (ys : List Int) (w : World) (hn0 : n0 ≤ maxLen) (h : Bytes w A0 n0 ys) (hg0 : ∀ x ∈ ys, byteGood x) :
    Calls Try.prog 5 #[.slice A0 n0 c0] w (TlDraw w) := by
  have hfr := Lib.hid (from_any A0 n0 c0 ys w hn0 h hg0)
  clear h hg0 hn0
  go_enter Try.func5, Try.ntmps5
  go_wp2_with fail
  refine hfr.out.mono ?_
  rintro e w1 ⟨rfl, hs1, hb1⟩
  have hz1 := hs1.lt
  have hd1 : Hid (Drawn w.heap.size w.heap.size w w1) := Lib.hid ⟨hb1.os, hb1.tape, hb1.output, hb1.size, fun k h1 _ => hb1.block k h1⟩
  have htb := Lib.hid (l08table_any _ 0 w1 hs1 (by omega))
  clear hfr hb1 hs1
  go_wp2_with fail
  refine htb.out.mono ?_
  rintro e w2 ⟨A, n, c, T, rfl, hn, hY, hT, hs2, hd2⟩
  have hd02 := Lib.hid (hd1.out.trans (hd2.down (by omega)))
  replace hs2 := hs2.mono (show 0 + 4000 ≤ 4000 by omega)
  have hz2 := hd2.size
  replace hY := Lib.hid hY
  replace hT := Lib.hid hT
  clear htb hd1 hd2
  have hd2 : Hid (Drawn w.heap.size w2.heap.size w2 w2) := Lib.hid (Drawn.refl _ _ _)
  by_cases hpos : 0 < n
  · have hgt : decide ((0 : Int) < (n : Int)) = true := decide_eq_true (by omega)
    have hn0' : (0 : Int) < (n : Int) := by omega
    obtain ⟨x0, hx0⟩ : ∃ x0, T[0]? = some x0 := by
      obtain ⟨_, rs, h1, h2, h3⟩ := hY.out
      exact ⟨_, List.getElem?_eq_getElem (by omega)⟩
    have hx13 := (hT.out x0 (List.mem_of_getElem? hx0)).2
    replace hx0 := Lib.hid hx0
    generalize hm : x0.length = m at *
    replace hm := Lib.hid hm
    go_wp2
    go_loopw [7, 8] (fun sv kv wr => ∃ (k : Nat) (s : ByteArray), sv = .string s ∧ kv = .int .i64 (k : Int) ∧ k ≤ m ∧ s.size ≤ 100 * k ∧ SrcAt wr w.heap.size (4000 + 2 * k) ∧ Drawn w.heap.size w2.heap.size w2 wr) (fun _ kv _ => m - (intOf kv).toNat)
    case atStart => exact ⟨0, ⟨#[]⟩, rfl, rfl, by omega, by decide, hs2, hd2.out⟩
    case round =>
      rename World => wr
      obtain ⟨k, s, rfl, rfl, hk, hss, hs, hd⟩ := hrel
      have hwr := hd.size
      obtain ⟨b, off, q, xs, rfl, hb, hbr, hx, hc, hS, hq⟩ := (hY.out.drawn hd).at_ hpos
      have hqm : q.n = m := by
        rw [← hS.1]
        have := hx0.out
        rw [hx] at this
        rw [Option.some.inj this]
        exact hm.out
      obtain ⟨B, nq, cq⟩ := q
      dsimp only at hqm hc hS
      obtain rfl : m = nq := hqm.symm
      rw [Nat.add_zero] at hc
      replace hd := Lib.hid hd
      clear hx hS hq
      have hk0 : (0 : Int) ≤ (k : Int) := Int.natCast_nonneg _
      by_cases hlt : k < m
      · have hk1 : (k : Int) < (m : Int) := by omega
        have hb4 := below_a1 wr (.cells #[.string ⟨#[108]⟩, .string ⟨#[114]⟩] 9)
        have hl4 : Strs (wr.alloc (.cells #[.string ⟨#[108]⟩, .string ⟨#[114]⟩] 9)) (some ⟨wr.heap.size, 0, none⟩) 2 [⟨#[108]⟩, ⟨#[114]⟩] := slit8 wr 9 [⟨#[108]⟩, ⟨#[114]⟩] 2 rfl
        have hsq4 := hs.below hb4
        have hwz4 := hd.out.size
        have hdq4 := Lib.hid (hd.out.below hb4 (by omega))
        have hzq4 := hb4.size
        have hne4 : ∀ p : Addr, (some ⟨wr.heap.size, 0, none⟩ : Option Addr) = some p → p.block ≠ w.heap.size := fun p hp => by cases hp; simp only; omega
        have hsl4 := Lib.hid (shortAll.out (show shortAll [⟨#[108]⟩, ⟨#[114]⟩] = true by decide))
        have hp4 := Lib.hid (text_any _ _ _ 2 2 _ _ hsq4 (by omega) hl4 (by omega) (by omega) hne4)
        clear hb4 hl4 hsq4 hne4 hs hd
        go_wp2_with fail
        refine hp4.out.mono ?_
        rintro e w4 ⟨z, zm, rfl, hs4, hg4⟩
        have hd4 := Lib.hid (hdq4.out.pick hg4 (by omega))
        have hz4 := hd4.out.size
        have zs := hsl4.out z zm
        clear hp4 hsl4 hdq4 hg4 zm
        have hsum : ¬ 9223372036854775807 < s.size + z.size := by omega
        have hs7 := Lib.hid (hs4.mono (show 4000 + 2 * k + 2 ≤ 4000 + 2 * (k + 1) by omega))
        have hss7 : Hid ((s ++ z).size ≤ 100 * (k + 1)) := Lib.hid (by rw [ByteArray.size_append]; omega)
        clear hs4 zs
        go_wp2
        go_roundw
        case rel => exact ⟨k + 1, s ++ z, rfl, by go_num, by omega, hss7.out, hs7.out, hd4.out⟩
        case measure => simp [intOf]; omega
      · obtain rfl : k = m := by omega
        have hge : decide ((k : Int) < (k : Int)) = false := decide_eq_false (by omega)
        have hpx := Lib.hid (pick_any _ _ 16 wr hs (by omega) (by omega))
        have hwx := hd.out.size
        clear hs
        go_wp2_with fail
        refine hpx.out.mono ?_
        rintro e wx ⟨x, rfl, x0, _, _, hsx, hgx⟩
        have hdx := Lib.hid (hd.out.pick hgx (by omega))
        have hzx := hdx.out.size
        clear hpx hgx hd
        by_cases hx0 : x = 0
        · have t0 : (x == 0) = true := beq_iff_eq.2 hx0
          replace hx0 := Lib.hid hx0
          have hb5 := below_a1 wx (.cells #[.string ⟨#[108]⟩, .string ⟨#[120]⟩] 9)
          have hl5 : Strs (wx.alloc (.cells #[.string ⟨#[108]⟩, .string ⟨#[120]⟩] 9)) (some ⟨wx.heap.size, 0, none⟩) 2 [⟨#[108]⟩, ⟨#[120]⟩] := slit8 wx 9 [⟨#[108]⟩, ⟨#[120]⟩] 2 rfl
          have hsq5 := hsx.below hb5
          have hwz5 := hdx.out.size
          have hdq5 := Lib.hid (hdx.out.below hb5 (by omega))
          have hzq5 := hb5.size
          have hne5 : ∀ p : Addr, (some ⟨wx.heap.size, 0, none⟩ : Option Addr) = some p → p.block ≠ w.heap.size := fun p hp => by cases hp; simp only; omega
          have hsl5 := Lib.hid (shortAll.out (show shortAll [⟨#[108]⟩, ⟨#[120]⟩] = true by decide))
          have hp5 := Lib.hid (text_any _ _ _ 2 2 _ _ hsq5 (by omega) hl5 (by omega) (by omega) hne5)
          clear hb5 hl5 hsq5 hne5 hsx hdx
          go_wp2_with fail
          refine hp5.out.mono ?_
          rintro e w5 ⟨z, zm, rfl, hs5, hg5⟩
          have hd5 := Lib.hid (hdq5.out.pick hg5 (by omega))
          have hz5 := hd5.out.size
          have zs := hsl5.out z zm
          clear hp5 hsl5 hdq5 hg5 zm
          have hsz9 : (s).size ≤ 2000 := by omega
          have hsz5 : Hid ((s ++ z).size ≤ 2100) := Lib.hid (by rw [ByteArray.size_append]; omega)
          have hsum : ¬ 9223372036854775807 < (s).size + z.size := by omega
          clear zs
          have hpz := Lib.hid (pick_any _ _ 4 w5 hs5 (by omega) (by omega))
          have hwzz := hd5.out.size
          clear hs5
          go_wp2_with fail
          refine hpz.out.mono ?_
          rintro e wz ⟨g, rfl, g0, g1, _, hsz1, hgz⟩
          replace g1 := g1 (by omega)
          have hdz := hd5.out.pick hgz (by omega)
          have hYz := Lib.hid (hY.out.drawn hdz).sss
          have hbb := Lib.hid ((hd02.out.trans (hdz.down (by omega))).own (Nat.le_refl _))
          have hgg : Hid (intGood g) := Lib.hid (good8 (by omega) (by omega))
          have hTg := Lib.hid hT.out.good
          have hss : Hid ((s ++ z).size ≤ 1048576) := Lib.hid (by have := hsz5.out; omega)
          clear hpz hsz1 hgz hdz hd5 g0 g1
          go_wp2
          go_ret3
          exact ⟨_, n, c, T, (s ++ z), g, rfl, hn, hYz.out, hTg.out, hss.out, hgg.out, hbb.out⟩
        · have t0 : (x == 0) = false := beq_eq_false_iff_ne.2 hx0
          replace hx0 := Lib.hid hx0
          by_cases hx1 : x = 1
          · have t1 : (x == 1) = true := beq_iff_eq.2 hx1
            replace hx1 := Lib.hid hx1
            have hb6 := below_a1 wx (.cells #[.int .i64 (-1), .int .i64 0, .int .i64 20, .int .i64 21] 2)
            have hl6 : Ints (wx.alloc (.cells #[.int .i64 (-1), .int .i64 0, .int .i64 20, .int .i64 21] 2)) (some ⟨wx.heap.size, 0, none⟩) 4 [-1, 0, 20, 21] := lit8 wx 2 [-1, 0, 20, 21] 4 rfl
            have hsq6 := hsx.below hb6
            have hdq6 := Lib.hid (hdx.out.below hb6 (by omega))
            have hzq6 := hb6.size
            have hne6 : ∀ p : Addr, (some ⟨wx.heap.size, 0, none⟩ : Option Addr) = some p → p.block ≠ w.heap.size := fun p hp => by cases hp; simp only; omega
            have hp6 := Lib.hid (among_any _ _ _ 4 4 _ _ hsq6 (by omega) hl6 (by omega) (by omega) hne6)
            clear hb6 hl6 hsq6 hne6 hsx hdx
            go_wp2_with fail
            refine hp6.out.mono ?_
            rintro e wz ⟨g, gm, rfl, hsz1, hgz⟩
            have hdz := hdq6.out.pick hgz (by omega)
            have hYz := Lib.hid (hY.out.drawn hdz).sss
            have hbb := Lib.hid ((hd02.out.trans (hdz.down (by omega))).own (Nat.le_refl _))
            have hgg : Hid (intGood g) := Lib.hid (by
              simp only [List.mem_cons, List.not_mem_nil, or_false] at gm
              rcases gm with rfl | rfl | rfl | rfl <;> exact good8 (by omega) (by omega))
            have hTg := Lib.hid hT.out.good
            have hss : Hid ((s).size ≤ 1048576) := Lib.hid (by have h9 : (s).size ≤ 2000 := (by omega); omega)
            clear hp6 hsz1 hgz hdz hdq6 gm
            go_wp2
            go_ret3
            exact ⟨_, n, c, T, s, g, rfl, hn, hYz.out, hTg.out, hss.out, hgg.out, hbb.out⟩
          · have t1 : (x == 1) = false := beq_eq_false_iff_ne.2 hx1
            replace hx1 := Lib.hid hx1
            have hpz := Lib.hid (pick_any _ _ 4 wx hsx (by omega) (by omega))
            have hwzz := hdx.out.size
            clear hsx
            go_wp2_with fail
            refine hpz.out.mono ?_
            rintro e wz ⟨g, rfl, g0, g1, _, hsz1, hgz⟩
            replace g1 := g1 (by omega)
            have hdz := hdx.out.pick hgz (by omega)
            have hYz := Lib.hid (hY.out.drawn hdz).sss
            have hbb := Lib.hid ((hd02.out.trans (hdz.down (by omega))).own (Nat.le_refl _))
            have hgg : Hid (intGood g) := Lib.hid (good8 (by omega) (by omega))
            have hTg := Lib.hid hT.out.good
            have hss : Hid ((s).size ≤ 1048576) := Lib.hid (by have h9 : (s).size ≤ 2000 := (by omega); omega)
            clear hpz hsz1 hgz hdz hdx g0 g1
            go_wp2
            go_ret3
            exact ⟨_, n, c, T, (s), g, rfl, hn, hYz.out, hTg.out, hss.out, hgg.out, hbb.out⟩
  · have hgt : decide ((0 : Int) < (n : Int)) = false := decide_eq_false (by omega)
    have hpx := Lib.hid (pick_any _ _ 16 w2 hs2 (by omega) (by omega))
    have hwx := hd2.out.size
    clear hs2
    go_wp2_with fail
    refine hpx.out.mono ?_
    rintro e wx ⟨x, rfl, x0, _, _, hsx, hgx⟩
    have hdx := Lib.hid (hd2.out.pick hgx (by omega))
    have hzx := hdx.out.size
    clear hpx hgx hd2
    by_cases hx0 : x = 0
    · have t0 : (x == 0) = true := beq_iff_eq.2 hx0
      replace hx0 := Lib.hid hx0
      have hb5 := below_a1 wx (.cells #[.string ⟨#[108]⟩, .string ⟨#[120]⟩] 9)
      have hl5 : Strs (wx.alloc (.cells #[.string ⟨#[108]⟩, .string ⟨#[120]⟩] 9)) (some ⟨wx.heap.size, 0, none⟩) 2 [⟨#[108]⟩, ⟨#[120]⟩] := slit8 wx 9 [⟨#[108]⟩, ⟨#[120]⟩] 2 rfl
      have hsq5 := hsx.below hb5
      have hwz5 := hdx.out.size
      have hdq5 := Lib.hid (hdx.out.below hb5 (by omega))
      have hzq5 := hb5.size
      have hne5 : ∀ p : Addr, (some ⟨wx.heap.size, 0, none⟩ : Option Addr) = some p → p.block ≠ w.heap.size := fun p hp => by cases hp; simp only; omega
      have hsl5 := Lib.hid (shortAll.out (show shortAll [⟨#[108]⟩, ⟨#[120]⟩] = true by decide))
      have hp5 := Lib.hid (text_any _ _ _ 2 2 _ _ hsq5 (by omega) hl5 (by omega) (by omega) hne5)
      clear hb5 hl5 hsq5 hne5 hsx hdx
      go_wp2_with fail
      refine hp5.out.mono ?_
      rintro e w5 ⟨z, zm, rfl, hs5, hg5⟩
      have hd5 := Lib.hid (hdq5.out.pick hg5 (by omega))
      have hz5 := hd5.out.size
      have zs := hsl5.out z zm
      clear hp5 hsl5 hdq5 hg5 zm
      have hsz9 : ((⟨#[]⟩ : ByteArray)).size ≤ 2000 := by exact (by decide : (⟨#[]⟩ : ByteArray).size ≤ 2000)
      have hsz5 : Hid (((⟨#[]⟩ : ByteArray) ++ z).size ≤ 2100) := Lib.hid (by rw [ByteArray.size_append]; omega)
      have hsum : ¬ 9223372036854775807 < ((⟨#[]⟩ : ByteArray)).size + z.size := by omega
      clear zs
      have hpz := Lib.hid (pick_any _ _ 4 w5 hs5 (by omega) (by omega))
      have hwzz := hd5.out.size
      clear hs5
      go_wp2_with fail
      refine hpz.out.mono ?_
      rintro e wz ⟨g, rfl, g0, g1, _, hsz1, hgz⟩
      replace g1 := g1 (by omega)
      have hdz := hd5.out.pick hgz (by omega)
      have hYz := Lib.hid (hY.out.drawn hdz).sss
      have hbb := Lib.hid ((hd02.out.trans (hdz.down (by omega))).own (Nat.le_refl _))
      have hgg : Hid (intGood g) := Lib.hid (good8 (by omega) (by omega))
      have hTg := Lib.hid hT.out.good
      have hss : Hid (((⟨#[]⟩ : ByteArray) ++ z).size ≤ 1048576) := Lib.hid (by have := hsz5.out; omega)
      clear hpz hsz1 hgz hdz hd5 g0 g1
      go_wp2
      go_ret3
      exact ⟨_, n, c, T, ((⟨#[]⟩ : ByteArray) ++ z), g, rfl, hn, hYz.out, hTg.out, hss.out, hgg.out, hbb.out⟩
    · have t0 : (x == 0) = false := beq_eq_false_iff_ne.2 hx0
      replace hx0 := Lib.hid hx0
      by_cases hx1 : x = 1
      · have t1 : (x == 1) = true := beq_iff_eq.2 hx1
        replace hx1 := Lib.hid hx1
        have hb6 := below_a1 wx (.cells #[.int .i64 (-1), .int .i64 0, .int .i64 20, .int .i64 21] 2)
        have hl6 : Ints (wx.alloc (.cells #[.int .i64 (-1), .int .i64 0, .int .i64 20, .int .i64 21] 2)) (some ⟨wx.heap.size, 0, none⟩) 4 [-1, 0, 20, 21] := lit8 wx 2 [-1, 0, 20, 21] 4 rfl
        have hsq6 := hsx.below hb6
        have hdq6 := Lib.hid (hdx.out.below hb6 (by omega))
        have hzq6 := hb6.size
        have hne6 : ∀ p : Addr, (some ⟨wx.heap.size, 0, none⟩ : Option Addr) = some p → p.block ≠ w.heap.size := fun p hp => by cases hp; simp only; omega
        have hp6 := Lib.hid (among_any _ _ _ 4 4 _ _ hsq6 (by omega) hl6 (by omega) (by omega) hne6)
        clear hb6 hl6 hsq6 hne6 hsx hdx
        go_wp2_with fail
        refine hp6.out.mono ?_
        rintro e wz ⟨g, gm, rfl, hsz1, hgz⟩
        have hdz := hdq6.out.pick hgz (by omega)
        have hYz := Lib.hid (hY.out.drawn hdz).sss
        have hbb := Lib.hid ((hd02.out.trans (hdz.down (by omega))).own (Nat.le_refl _))
        have hgg : Hid (intGood g) := Lib.hid (by
          simp only [List.mem_cons, List.not_mem_nil, or_false] at gm
          rcases gm with rfl | rfl | rfl | rfl <;> exact good8 (by omega) (by omega))
        have hTg := Lib.hid hT.out.good
        have hss : Hid (((⟨#[]⟩ : ByteArray)).size ≤ 1048576) := Lib.hid (by have h9 : ((⟨#[]⟩ : ByteArray)).size ≤ 2000 := (by exact (by decide : (⟨#[]⟩ : ByteArray).size ≤ 2000)); omega)
        clear hp6 hsz1 hgz hdz hdq6 gm
        go_wp2
        go_ret3
        exact ⟨_, n, c, T, (⟨#[]⟩ : ByteArray), g, rfl, hn, hYz.out, hTg.out, hss.out, hgg.out, hbb.out⟩
      · have t1 : (x == 1) = false := beq_eq_false_iff_ne.2 hx1
        replace hx1 := Lib.hid hx1
        have hpz := Lib.hid (pick_any _ _ 4 wx hsx (by omega) (by omega))
        have hwzz := hdx.out.size
        clear hsx
        go_wp2_with fail
        refine hpz.out.mono ?_
        rintro e wz ⟨g, rfl, g0, g1, _, hsz1, hgz⟩
        replace g1 := g1 (by omega)
        have hdz := hdx.out.pick hgz (by omega)
        have hYz := Lib.hid (hY.out.drawn hdz).sss
        have hbb := Lib.hid ((hd02.out.trans (hdz.down (by omega))).own (Nat.le_refl _))
        have hgg : Hid (intGood g) := Lib.hid (good8 (by omega) (by omega))
        have hTg := Lib.hid hT.out.good
        have hss : Hid (((⟨#[]⟩ : ByteArray)).size ≤ 1048576) := Lib.hid (by have h9 : ((⟨#[]⟩ : ByteArray)).size ≤ 2000 := (by exact (by decide : (⟨#[]⟩ : ByteArray).size ≤ 2000)); omega)
        clear hpz hsz1 hgz hdz hdx g0 g1
        go_wp2
        go_ret3
        exact ⟨_, n, c, T, ((⟨#[]⟩ : ByteArray)), g, rfl, hn, hYz.out, hTg.out, hss.out, hgg.out, hbb.out⟩
end Go.Proofs.Ytmgoidngecimbaa
