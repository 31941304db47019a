/- Tables of pairs and arrangements that are drawn from bytes. -/
import Derived.Test.YtbhiimleagldgaaDraw5
namespace Go.Proofs.Ytbhiimleagldgaa
open Go.RowKit
set_option linter.unusedVariables false
set_option linter.unusedSimpArgs false

theorem below_from {w w1 w2 : World} (hb1 : Below w.heap.size w w1) (hD : Drawn w.heap.size w1.heap.size w1 w2) : Below w.heap.size w w2 :=
  ⟨hD.os.trans hb1.os, hD.tape.trans hb1.tape, hD.output.trans hb1.output, Nat.le_trans hb1.size hD.size, fun k hk => (hD.block k (Nat.lt_of_lt_of_le hk hb1.size) (by omega)).trans (hb1.block k hk)⟩
def PrOut (w : World) (e : Ending) (w' : World) : Prop := ∃ A n c T, e = .returned (.slice A n c) ∧ 2 ≤ n ∧ n ≤ 5 ∧ n ≤ c ∧ IntSS w' A n T ∧ pairD n T ∧ Below w.heap.size w w'
theorem a2pairs_any (A : Option Addr) (n c : Nat) (xs : List Int) (w : World) (hn : n ≤ maxLen) (h : Bytes w A n xs) (hg : ∀ x ∈ xs, byteGood x) :
    Calls Try.prog 7 #[.slice A n c] w (PrOut w) := by
  have hfr := Lib.hid (from_any A n c xs w hn h hg)
  clear h hg
  go_enter Try.func7, Try.ntmps7
  go_wp2_with fail
  refine (hfr.out).mono ?_
  rintro e w1 ⟨rfl, hs1, hb1⟩
  have hlt := hs1.lt
  have hpk := Lib.hid (pick_any w.heap.size 0 4 w1 hs1 (by omega) (by omega))
  clear hs1
  go_wp2_with fail
  refine (hpk.out).mono ?_
  rintro e w2 ⟨z, rfl, z0, z1, z2, hs2, hg2⟩
  have z1 := z1 (by omega)
  clear z2
  obtain ⟨q, rfl⟩ : ∃ q : Nat, z = (q : Int) := ⟨z.toNat, by omega⟩
  have hD2 : Drawn w.heap.size w1.heap.size w1 w2 := (Drawn.refl _ _ _).pick hg2 (Nat.le_refl _)
  have hdr := Lib.hid (l05draw_any w.heap.size _ (2 + q) w2 hs2 (by omega) (by omega))
  have hcast : ((2 + q : Nat) : Int) = 2 + (q : Int) := by omega
  rw [hcast] at hdr
  have hq3 : q ≤ 3 := by omega
  have hsz := hg2.size
  have hD2' := Lib.hid hD2
  have hb1' := Lib.hid hb1
  clear hs2 hg2 hD2 hcast hb1
  go_wp2_with fail
  refine (hdr.out).mono ?_
  rintro e w3 ⟨B, d, T, rfl, hd, hI, hT, _, hD3⟩
  have hI' := Lib.hid hI
  have hT' := Lib.hid hT
  have hbel := Lib.hid (below_from hb1'.out (hD2'.out.trans ⟨hD3.os, hD3.tape, hD3.output, hD3.size, fun k h1 h2 => hD3.block k (by omega) h2⟩))
  clear hI hT hD3
  go_wp2
  go_ret
  exact ⟨B, 2 + q, d, T, rfl, by omega, by omega, hd, hI'.out, hT'.out, hbel.out⟩

/-- A copy of a slice that is not nil, empty or not. -/
def OwOut (n : Nat) (xs : List Int) (w : World) (e : Ending) (w' : World) : Prop := ∃ g d, e = .returned (.slice (some ⟨g, 0, none⟩) n d) ∧ w'.ownsRow w.heap.size 2 1 (.slice (some ⟨g, 0, none⟩) n d) n (xs.flatMap intC) ∧ Below w.heap.size w w'
set_option maxHeartbeats 800000 in
theorem own0_spec (b off : Nat) (n c : Nat) (xs : List Int) (w : World) (h : Ints w (some ⟨b, off, none⟩) n xs) (hn : n ≤ 1048576) :
    Calls Try.prog 24 #[.slice (some ⟨b, off, none⟩) n c] w (OwOut n xs w) := by
  obtain ⟨i0, hi, hz0, hz1, hz2⟩ := info_parts Try.infoI64
  have hown := Lib.hid (empty_owns w 2 w.heap.size (Nat.le_refl _))
  have hnews : Hid (∀ j u, (xs.flatMap intC)[j]? = some u → (w.alloc (.cells #[] 2)).cell? ((⟨b, off, none⟩ : Addr).add j) = some u) := Lib.hid fun j u hu => by
    rw [flat_i] at hu
    obtain ⟨x, hx, rfl⟩ := Option.map_eq_some_iff.1 hu
    have hj : j < n := by rw [← h.1]; exact (List.getElem?_eq_some_iff.1 hx).1
    obtain ⟨_, _, x', e, _, hx', hc⟩ := int_at h hj
    cases e
    have : x = x' := by have := hx'.out; rw [hx] at this; exact Option.some.inj this
    subst this
    have h1 := cell_on hc (.cells #[] 2)
    unfold Addr.add
    split
    · rename_i hz; subst hz; simpa using h1
    · simpa using h1
  have hone : Hid (∀ u ∈ xs.flatMap intC, u.oneCell' = true) := Lib.hid fun u hu => by
    simp only [List.mem_flatMap, intC, List.mem_singleton] at hu
    obtain ⟨x, _, rfl⟩ := hu
    rfl
  have hlen : Hid ((xs.flatMap intC).length = n * 1) := Lib.hid (by rw [flat_len, h.1])
  have hl := Lib.hid h.1
  clear h
  go_enter Try.func24, Try.ntmps24
  go_wp2_with (at_builtin; refine wpList_append_own _ rfl _ _ 29 rfl w.heap.size 2 i0 _ 1 8 Try.underlying29 hi hz0 hz1 hz2 rfl (by decide) _ _ _ rfl hown.out ⟨b, off, none⟩ n c (xs.flatMap intC) rfl hlen.out hnews.out hone.out ?c3 ?c4 ?c5 ?_)
  case c3 => unfold maxLen; omega
  case c4 => omega
  case c5 => simp
  intro v' w3 hown3 hgr3 hnil
  (try simp only [Nat.zero_add, List.nil_append] at hown3)
  obtain ⟨g, d, rfl⟩ : ∃ g d, v' = .slice (some ⟨g, 0, none⟩) n d := by
    rcases hown3.2 with ⟨h1, _⟩ | ⟨g, cap, cur, h1, _⟩
    · exact absurd h1 (by first | exact hnil | (simp at hnil; exact hnil))
    · exact ⟨g, cap, h1⟩
  have hfin := Lib.hid hown3
  have hbel : Hid (Below w.heap.size w w3) := Lib.hid (Below.grown (below_a1 _ _) hgr3 (by simp) (fun j hj => by simp [Value.ownBlock] at hj; omega))
  clear hown3 hgr3 hnil
  go_wp2
  go_ret
  exact ⟨g, d, rfl, hfin.out, hbel.out⟩

/-- Different numbers below k. -/
def permD (k : Nat) (ys : List Int) : Prop := ys.length = k ∧ (∀ y ∈ ys, 0 ≤ y ∧ y < k) ∧ ys.Nodup
theorem permD.add {k q : Nat} {ys : List Int} (h : permD k ys) (hq : q ≤ k) : permD (k + 1) (ys.take q ++ [(k : Int)] ++ ys.drop q) := by
  obtain ⟨h1, h2, h3⟩ := h
  have hp : (ys.take q ++ [(k : Int)] ++ ys.drop q).Perm ((k : Int) :: ys) := by
    rw [List.append_assoc]
    have := List.perm_middle (a := (k : Int)) (l₁ := ys.take q) (l₂ := ys.drop q)
    rwa [List.take_append_drop] at this
  refine ⟨by rw [hp.length_eq]; simp [h1], fun y hy => ?_, hp.nodup_iff.2 (List.nodup_cons.2 ⟨fun hm => by have := h2 _ hm; omega, h3⟩)⟩
  rcases List.mem_cons.1 (hp.mem_iff.1 hy) with rfl | hy
  · omega
  · have := h2 y hy; omega
def PlOut (m : Nat) (w : World) (e : Ending) (w' : World) : Prop := ∃ A c ys, e = .returned (.slice A m c) ∧ m ≤ c ∧ Ints w' A m ys ∧ permD m ys ∧ Below w.heap.size w w'

set_option maxRecDepth 100000 in
set_option maxHeartbeats 4000000 in
theorem a2places_any (A : Option Addr) (n c : Nat) (xs : List Int) (m : Nat) (w : World) (hn : n ≤ maxLen) (h : Bytes w A n xs) (hg : ∀ x ∈ xs, byteGood x) (hm : m ≤ 8) :
    Calls Try.prog 8 #[.slice A n c, .int .i64 (m : Int)] w (PlOut m w) := by
  obtain ⟨i0, hi, hz0, hz1, hz2⟩ := info_parts Try.infoI64
  have hfr := Lib.hid (from_any A n c xs w hn h hg)
  clear h hg
  go_enter Try.func8, Try.ntmps8
  go_wp2_with fail
  refine (hfr.out).mono ?_
  rintro e w1 ⟨rfl, hs1, hb1⟩
  have hlt := hs1.lt
  have hbb := below_a1 w1 (.cells #[] 2)
  have hs1' := Lib.hid (hs1.below hbb)
  have hd1 := Lib.hid ((Drawn.refl w.heap.size w1.heap.size w1).below hbb (Nat.le_refl _))
  have ho1 := Lib.hid (empty_owns w1 2 w1.heap.size (Nat.le_refl _))
  have hN1 := Lib.hid hbb.size
  have hb1' := Lib.hid hb1
  have hr : w.heap.size < w1.heap.size := hlt
  clear hs1 hbb hb1 hfr
  go_wp2
  go_loopw [6, 7] (fun v i wr => ∃ (k : Nat) (ys : List Int) (g d : Nat), k ≤ m ∧ i = .int .i64 k ∧ v = .slice (some ⟨g, 0, none⟩) k d ∧ wr.ownsRow w1.heap.size 2 1 (.slice (some ⟨g, 0, none⟩) k d) k (ys.flatMap intC) ∧ permD k ys ∧ SrcAt wr w.heap.size (2 * k) ∧ Drawn w.heap.size w1.heap.size w1 wr ∧ w1.heap.size ≤ wr.heap.size) (fun _ i _ => m - (intOf i).toNat)
  case atStart => exact ⟨0, [], _, _, by omega, rfl, rfl, ho1.out, ⟨rfl, (fun y hy => by cases hy), List.nodup_nil⟩, hs1'.out, hd1.out, hN1.out⟩
  case round =>
    obtain ⟨k, ys, g, d, hk, rfl, rfl, hown, hP, hsr, hdr, hNr⟩ := hrel
    rename World => wr
    have hP' := Lib.hid hP
    by_cases hlt2 : k < m
    · have hk0 : (0 : Int) ≤ (k : Int) := Int.natCast_nonneg _
      have hk1 : (k : Int) < (m : Int) := by omega
      have hkd : k ≤ d := by
        rcases hown.2 with ⟨h8, _⟩ | ⟨_, cap, _, h8, _, _, hc, _⟩
        · cases h8
        · cases h8; exact hc
      have hpk := Lib.hid (pick_any w.heap.size _ ((k : Int) + 1) wr hsr (by omega) (by omega))
      have hown' := Lib.hid hown
      clear hown hsr hP
      go_wp2_with fail
      refine (hpk.out).mono ?_
      rintro e w2 ⟨z, rfl, z0, z1, z2, hs2, hg2⟩
      have hzk : z ≤ (k : Int) := by
        by_cases h9 : 1 < (k : Int) + 1
        · have := z1 h9; omega
        · have := z2 (by omega); omega
      obtain ⟨q, rfl⟩ : ∃ q : Nat, z = (q : Int) := ⟨z.toNat, by omega⟩
      clear z1 z2
      have hqk : q ≤ k := by omega
      have hown2 := Lib.hid (owns_past hown'.out hg2 hr)
      have hd2 := Lib.hid (hdr.pick hg2 hNr)
      have hN2 := Nat.le_trans hNr hg2.size
      have hI2 : Ints w2 (some ⟨g, 0, none⟩) k ys := by
        obtain ⟨A', c', e, _, hO⟩ := owns_i hP'.out.1 hown2.out
        cases e
        exact hO.srow
      have hs2' := Lib.hid hs2
      have hcp := Lib.hid (own0_spec g 0 q d (ys.take q) w2 (hI2.take hqk) (by omega))
      have hqd : (q : Int) ≤ (d : Int) := by omega
      have hI2' := Lib.hid hI2
      clear hg2 hs2 hI2
      go_wp2_with fail
      refine (hcp.out).mono ?_
      rintro e w3 ⟨g3, d3, rfl, hown3, hb3⟩
      have hs3 := hs2'.out.below hb3
      have hd3 := Lib.hid (hd2.out.below hb3 hN2)
      have hN3 := Nat.le_trans hN2 hb3.size
      have hI3 := Lib.hid (hI2'.out.below hb3)
      have hown3' := Lib.hid hown3
      have hs3' := Lib.hid hs3
      have hw23 := Lib.hid hb3.size
      clear hs3 hb3 hown3
      go_wp2_with (at_builtin; refine wpList_append_lies _ rfl _ _ 29 rfl w2.heap.size 2 i0 _ 1 8 Try.underlying29 hi hz0 hz1 hz2 rfl (by decide) _ q ((ys.take q).flatMap intC) rfl (hown3'.out.alloc _) ⟨w3.heap.size, 0, none⟩ 1 1 [.int .i64 (k : Int)] rfl rfl ?a1 ?b1 (by decide) ?c1 ?d1 ?e1 _ rfl ?_)
      case a1 =>
        intro j u hj
        match j, hj with
        | 0, hj => cases hj; exact cell_new (by simp [Addr.add]) rfl
        | j + 1, hj => simp at hj
      case b1 =>
        intro u hu
        simp only [List.mem_cons, List.not_mem_nil, or_false] at hu
        rcases hu with rfl; rfl
      case c1 => unfold maxLen; omega
      case d1 => omega
      case e1 => have := hw23.out; simp; omega
      intro g4 d4 w4 hown4 hg4 _ _
      have hge4 : ∀ q', (Value.slice (some ⟨g3, 0, none⟩) q d3).ownBlock = some q' → w2.heap.size ≤ q' := fun q' hq' => (ge_own5 hown3'.out hq').1
      have hg1 : g < w2.heap.size := by have := (ge_own5 hown2.out (g := g) rfl).2; exact this
      have hgl : w1.heap.size ≤ g := (ge_own5 hown2.out (g := g) rfl).1
      have hI4 : Ints w4 (some ⟨g, 0, none⟩) k ys := (hI3.out.below (below_a1 w3 _)).youngR hg4 (fun p hp e => by cases hp; have := hge4 _ e; simp only at this; omega)
      have hd4 := Lib.hid ((hd3.out.below (below_a1 w3 _) hN3).youngO hg4 (by simp; omega) (fun q' hq' => by have := hge4 q' hq'; omega))
      have hs4 := Lib.hid ((hs3'.out.below (below_a1 w3 _)).grownO hg4 (fun q' hq' => by have := hge4 q' hq'; omega))
      have hN4 : w2.heap.size ≤ w4.heap.size := by have := hg4.size; have := hw23.out; simp at *; omega
      have hown4' : Hid (w4.ownsRow w2.heap.size 2 1 (.slice (some ⟨g4, 0, none⟩) (q + 1) d4) (q + 1) ((ys.take q ++ [(k : Int)]).flatMap intC)) := Lib.hid (by rw [ints_snoc]; exact hown4)
      have hadd := Lib.hid (hP'.out.add hqk)
      have hrest : Hid (∀ j u, ((ys.drop q).flatMap intC)[j]? = some u → w4.cell? ⟨g, q + j, none⟩ = some u) := Lib.hid fun j u hu => by
        rw [flat_i] at hu
        obtain ⟨x, hx, rfl⟩ := Option.map_eq_some_iff.1 hu
        rw [List.getElem?_drop] at hx
        have hj : q + j < k := by rw [← hI4.1]; exact (List.getElem?_eq_some_iff.1 hx).1
        obtain ⟨_, _, x', e, _, hx', hc⟩ := int_at hI4 hj
        cases e
        have : x = x' := by have := hx'.out; rw [hx] at this; exact Option.some.inj this
        subst this
        rwa [Nat.zero_add] at hc
      have hone : Hid (∀ u ∈ (ys.drop q).flatMap intC, u.oneCell' = true) := Lib.hid fun u hu => by
        simp only [List.mem_flatMap, intC, List.mem_singleton] at hu
        obtain ⟨x, _, rfl⟩ := hu
        rfl
      have hdl : Hid (((ys.drop q).flatMap intC).length = (k - q) * 1) := Lib.hid (by rw [flat_len, List.length_drop, hP'.out.1])
      have hqk2 : (q : Int) ≤ (k : Int) := by omega
      have hend : Hid (∀ v' w5, w5.ownsRow w2.heap.size 2 1 v' (q + 1 + (k - q)) ((ys.take q ++ [(k : Int)]).flatMap intC ++ (ys.drop q).flatMap intC) → w4.grownBy w5 (Value.slice (some ⟨g4, 0, none⟩) (q + 1) d4).ownBlock → (v' = .slice none 0 0 ↔ Value.slice (some ⟨g4, 0, none⟩) (q + 1) d4 = .slice none 0 0 ∧ k - q = 0) →
          ∃ g5 d5, v' = .slice (some ⟨g5, 0, none⟩) (k + 1) d5 ∧ w5.ownsRow w1.heap.size 2 1 (.slice (some ⟨g5, 0, none⟩) (k + 1) d5) (k + 1) ((ys.take q ++ [(k : Int)] ++ ys.drop q).flatMap intC) ∧ SrcAt w5 w.heap.size (2 * (k + 1)) ∧ Drawn w.heap.size w1.heap.size w1 w5 ∧ w1.heap.size ≤ w5.heap.size) := Lib.hid (fun v' w5 ho5 hg5 hn5 => by
        have hqe : q + 1 + (k - q) = k + 1 := by omega
        rw [hqe, ← List.flatMap_append] at ho5
        obtain ⟨g5, d5, rfl⟩ : ∃ g5 d5, v' = .slice (some ⟨g5, 0, none⟩) (k + 1) d5 := by
          rcases ho5.2 with ⟨h1, _⟩ | ⟨g', cap, cur, h1, _⟩
          · have := (hn5.1 h1).1; simp at this
          · exact ⟨g', cap, h1⟩
        have hge5 : ∀ q', (Value.slice (some ⟨g4, 0, none⟩) (q + 1) d4).ownBlock = some q' → w2.heap.size ≤ q' := fun q' hq' => (ge_own5 hown4'.out hq').1
        refine ⟨g5, d5, rfl, ?_, ?_, ?_, ?_⟩
        · obtain ⟨h1, ⟨h2, _⟩ | ⟨g', cap, cur, h2, h3, h4⟩⟩ := ho5
          · cases h2
          · exact ⟨h1, .inr ⟨g', cap, cur, h2, by omega, h4⟩⟩
        · exact (hs4.out.grownO hg5 (fun q' hq' => by have := hge5 q' hq'; omega)).mono (by omega)
        · exact hd4.out.youngO hg5 (by omega) (fun q' hq' => by have := hge5 q' hq'; omega)
        · have := hg5.size; omega)
      clear hown4 hg4 hI4 hge4
      by_cases hdq : d = q
      · have hkq : k - q = 0 := by omega
        have e9 : (q + 1 + (k - q)) = q + 1 := by omega
        go_wp2_with (at_builtin; refine wpList_append_own _ rfl _ _ 29 rfl w2.heap.size 2 i0 _ 1 8 Try.underlying29 hi hz0 hz1 hz2 rfl (by decide) _ _ _ rfl hown4'.out ⟨g, 0, none⟩ (k - q) (d - q) ((ys.drop q).flatMap intC) ?hxu hdl.out ?nwu hone.out ?c3u ?c4u ?c5u ?_)
        case hxu => first | rfl | (simp_all; done) | (simp_all; rfl)
        case nwu => (intro j u hu; have h9 := (List.getElem?_eq_some_iff.1 hu).1; rw [hdl.out] at h9; omega)
        case c3u => unfold maxLen; omega
        case c4u => omega
        case c5u => omega
        intro v' w5 ho5 hg5 hn5
        obtain ⟨g5, d5, rfl, ho6, hs6, hd6, hN6⟩ := hend.out v' w5 (by simpa [hkq] using ho5) hg5 (by simpa using hn5)
        have ho6' := Lib.hid ho6
        have hs6' := Lib.hid hs6
        have hd6' := Lib.hid hd6
        clear ho5 hg5 hn5 ho6 hs6 hd6
        go_wp2
        go_roundw
        case rel => exact ⟨k + 1, _, g5, d5, by omega, by go_num, rfl, ho6'.out, hadd.out, hs6'.out, hd6'.out, hN6⟩
        case measure => simp [intOf]; omega
      · have hqd2 : ¬ d = q := hdq
        go_wp2_with (at_builtin; refine wpList_append_own _ rfl _ _ 29 rfl w2.heap.size 2 i0 _ 1 8 Try.underlying29 hi hz0 hz1 hz2 rfl (by decide) _ _ _ rfl hown4'.out ⟨g, q, none⟩ (k - q) (d - q) ((ys.drop q).flatMap intC) ?hxv hdl.out ?nwv hone.out ?c3v ?c4v ?c5v ?_)
        case hxv => first | rfl | (simp_all; done) | (simp_all; rfl)
        case nwv => (intro j u hu; have h9 := hrest.out j u hu; unfold Addr.add; split; (rename_i hz; subst hz; simpa using h9); (simpa using h9))
        case c3v => unfold maxLen; omega
        case c4v => omega
        case c5v => omega
        intro v' w5 ho5 hg5 hn5
        obtain ⟨g5, d5, rfl, ho6, hs6, hd6, hN6⟩ := hend.out v' w5 (by simpa using ho5) hg5 (by simpa using hn5)
        have ho6' := Lib.hid ho6
        have hs6' := Lib.hid hs6
        have hd6' := Lib.hid hd6
        clear ho5 hg5 hn5 ho6 hs6 hd6
        go_wp2
        go_roundw
        case rel => exact ⟨k + 1, _, g5, d5, by omega, by go_num, rfl, ho6'.out, hadd.out, hs6'.out, hd6'.out, hN6⟩
        case measure => simp [intOf]; omega
    · obtain rfl : k = m := by omega
      have hI : Ints wr (some ⟨g, 0, none⟩) k ys := by
        obtain ⟨A', c', e, _, hO⟩ := owns_i hP.1 hown
        cases e
        exact hO.srow
      have hkd : k ≤ d := by
        rcases hown.2 with ⟨h8, _⟩ | ⟨_, cap, _, h8, _, _, hc, _⟩
        · cases h8
        · cases h8; exact hc
      have hI' := Lib.hid hI
      have hbel := Lib.hid (below_from hb1'.out hdr)
      clear hI hown hsr hdr hP
      go_wp2
      go_ret
      exact ⟨_, d, ys, rfl, hkd, hI'.out, hP'.out, hbel.out⟩
end Go.Proofs.Ytbhiimleagldgaa
