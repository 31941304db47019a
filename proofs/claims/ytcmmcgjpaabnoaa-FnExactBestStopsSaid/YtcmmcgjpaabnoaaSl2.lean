/- BestStops: the program. -/
import Derived.Test.YtcmmcgjpaabnoaaSl1
import Derived.Test.YtcmmcgjpaabnoaaWm3
namespace Go.Proofs.Ytcmmcgjpaabnoaa
open Go.RowKit Go.ChangeShapes Go.WideShapes Go.Deep
set_option linter.unusedVariables false
set_option linter.unusedSimpArgs false

theorem allL_rises : ∀ (m a : Nat), ∀ L ∈ allL m a, risesB 30 (a : Int) L = true
  | 0, a, L, h => by
    rw [allL, List.mem_singleton] at h
    subst h
    rfl
  | m + 1, a, L, h => by
    rw [allL, List.mem_flatMap] at h
    obtain ⟨c, hc, h⟩ := h
    obtain ⟨t, ht, rfl⟩ := List.mem_map.1 h
    rw [List.mem_range'_1] at hc
    have h1 := allL_rises m (c + 1) t ht
    rw [risesB, inR_iff.2 ⟨by omega, by omega⟩, Bool.true_and]
    rw [Int.natCast_add] at h1
    exact h1
theorem allL_st {m : Nat} (hm : m ≤ 2) {L : List Int} (h : L ∈ allL m 1) : stB L = true := by
  have h1 := allL_rises m 1 L h
  have h2 := (allL_in m 1 (by omega) L h).1
  rw [stB, decide_eq_true (by omega), Bool.true_and]
  exact h1
/-- What the program holds of the best list so far. -/
def AccB (W : World) (base : Nat) (bv lv : Value) : Option (List Int × Nat) → Prop
  | none => bv = .slice none 0 0 ∧ lv = .int .i64 9223372036854775807
  | some p => ∃ A n c, bv = .slice A n c ∧ lv = .int .i64 (p.2 : Int) ∧ n ≤ 6 ∧ p.2 ≤ 4000000 ∧ OInts W base A n p.1
theorem AccB.below {W W' : World} {base : Nat} {bv lv : Value} {acc : Option (List Int × Nat)} (h : AccB W base bv lv acc) (hb : Below W.heap.size W W') : AccB W' base bv lv acc := by
  match acc, h with
  | none, h => exact h
  | some p, ⟨A, n, c, h1, h2, h3, h4, h5⟩ => exact ⟨A, n, c, h1, h2, h3, h4, ORow.below h5 hb⟩
theorem take_fold {rs : List ByteArray} {X : List (List Int)} {k : Nat} {L : List Int} (h : X[k]? = some L) : (X.take (k + 1)).foldl (pickS rs) none = pickS rs ((X.take k).foldl (pickS rs) none) L := by
  rw [take8 h, List.foldl_append]
  rfl
theorem bestR_q {rs : List ByteArray} {k q : Int} (hq : rowsC rs.length rs = q) (h0 : q ≠ 0) : bestR rs k = ([], 0, q) := by
  rw [rowsC] at hq
  rw [bestR]
  by_cases h12 : 12 < rs.length
  · rw [if_pos h12] at hq ⊢
    rw [← hq]
  · rw [if_neg h12] at hq ⊢
    by_cases h3 : rs.all rowB = true
    · rw [if_pos h3] at hq; omega
    · rw [if_neg h3] at hq
      rw [if_neg (by simp [h3]), ← hq]
theorem bestR_2 {rs : List ByteArray} {k : Int} (hq : rowsC rs.length rs = 0) (h0 : inR k 0 2 = false) : bestR rs k = ([], 0, 2) := by
  obtain ⟨h1, h2⟩ := rowsC_0 hq
  rw [bestR, if_neg (by omega), if_neg (by simp [h0])]
theorem bestR_0 {rs : List ByteArray} {k : Int} (hq : rowsC rs.length rs = 0) (h0 : inR k 0 2 = true) : bestR rs k = ((bsV (bestS rs k.toNat)).1, (bsV (bestS rs k.toNat)).2, 0) := by
  obtain ⟨h1, h2⟩ := rowsC_0 hq
  rw [bestR, if_neg (by omega), if_pos (by simp [h0, h2])]
set_option maxRecDepth 100000 in
set_option maxHeartbeats 3200000 in
theorem bsW11 (B : Option Addr) (m d : Nat) (rs : List ByteArray) (k : Int) (w : World) (hR : Strs w B m rs) (hm : m ≤ 1048576) (hg : ∀ x ∈ rs, x.size ≤ maxLen) {r : List Int × Int × Int} (hr : bestR rs k = r) :
    Calls Try.prog 29 #[.slice B m d, .int .i64 k] w (I3Out r w) := by
  have hl := hR.1
  obtain ⟨q, hq⟩ : ∃ q, rowsC m rs = q := ⟨_, rfl⟩
  have hck := Lib.hid (checkRows11 B m d rs hq w hR hm hg)
  by_cases hq0 : q = 0
  · subst hq0
    rw [← hl] at hq
    obtain ⟨k1, k2⟩ := rowsC_0 hq
    cases hin : inR k 0 2 with
    | false =>
      have hrr : Hid (r = ([], 0, 2)) := Lib.hid (by rw [← hr, bestR_2 hq hin])
      have hc := Lib.hid (fun W => in8_impl hin W)
      clear hr hq hR hg
      go_enter Try.func29, Try.ntmps29
      go_wp2_with fail
      refine hck.out.mono ?_
      rintro e w1 ⟨rfl, rfl⟩
      go_wp2_with fail
      refine (hc.out _).mono ?_
      rintro e w1 ⟨rfl, rfl⟩
      go_wp2
      go_ret3
      exact I3Out.bad hrr.out (Below.refl _ _)
    | true =>
      have hc := Lib.hid (fun W => in8_impl hin W)
      obtain ⟨h0, h2⟩ := inR_iff.1 hin
      obtain ⟨t, rfl⟩ : ∃ t : Nat, k = (t : Int) := ⟨k.toNat, by omega⟩
      have ht : t ≤ 2 := by omega
      have hrr : Hid (r = ((bsV (bestS rs t)).1, (bsV (bestS rs t)).2, 0)) := Lib.hid (by rw [← hr, bestR_0 hq hin]; rfl)
      have hcw := Lib.hid (cwW11 B m d rs w hR (by omega) k2)
      clear hr hq hR hg hin
      go_enter Try.func29, Try.ntmps29
      go_wp2_with fail
      refine hck.out.mono ?_
      rintro e w1 ⟨rfl, rfl⟩
      go_wp2_with fail
      refine (hc.out _).mono ?_
      rintro e w1 ⟨rfl, rfl⟩
      go_wp2_with fail
      refine hcw.out.mono ?_
      rintro e w2 ⟨bm, l, rfl, hM, hbm, hb2, htot, hko, hsum⟩
      have hll : l.length ≤ 360 := Nat.le_trans hko.few htot
      have hone : ∀ x ∈ l, x.1.1 ≤ 30 ∧ x.1.2 ≤ 30 ∧ x.2 ≤ 360 := fun x hx => ⟨(hko x hx).1, (hko x hx).2.1, Nat.le_trans (sum_one_le hx) htot⟩
      have hpg : Hid (∀ L, sumN (wayN L) l = pageN L rs ∧ pageN L rs ≤ 4000000) := Lib.hid fun L => by
        have e1 : sumN (wayN L) l = pageN L rs := by rw [hsum, pageN_sum]
        have e2 : sumN (wayN L) l ≤ 10800 * l.length := sumN_most fun x hx => ⟨(hone x hx).2.2, wayP_30 (hone x hx).1 (hone x hx).2.1⟩
        exact ⟨e1, by omega⟩
      replace hko := Lib.hid hko
      have hsl := Lib.hid (slW11 t ht w2)
      have hMl := hM.lt
      have hz2 := hb2.size
      clear hsum hone hll
      go_wp2_with fail
      refine hsl.out.mono ?_
      rintro e w3 ⟨A3, c3, rs3, rfl, hO3, hok3, hb3⟩
      have hM3 := hM.below hb3 hMl
      have hb03 := Lib.hid (hb2.step hb3)
      have hz3 := hb3.size
      have hrl := hok3.1
      have hfew := allL_few ht
      replace hO3 := Lib.hid hO3
      replace hok3 := Lib.hid hok3
      replace hM3 := Lib.hid hM3
      have hMl3 : bm < w3.heap.size := by omega
      clear hM hb2 hb3 hsl hcw hck hc
      go_wp2
      go_loopw [9, 10, 12, 13, 27] (fun bv lv _ _ i wr => ∃ k : Nat, k ≤ rs3.length ∧ i = .int .i64 (k : Int) ∧ AccB wr w.heap.size bv lv (((allL t 1).take k).foldl (pickS rs) none) ∧ Below w3.heap.size w3 wr) (fun _ _ _ _ i _ => rs3.length - (intOf i).toNat)
      case atStart => exact ⟨0, by omega, rfl, ⟨rfl, rfl⟩, Below.refl _ _⟩
      case round =>
        rename World => wr
        obtain ⟨k, hk, rfl, hacc, hbr⟩ := hrel
        have hszr := hbr.size
        by_cases hlt : k < rs3.length
        · obtain ⟨b, off, ⟨xA, xn, xc⟩, rfl, hb, hx, hcell⟩ := (hO3.out.srow.below hbr).at_ hlt
          have c0 := hcell 0 _ rfl
          rw [Nat.mul_one, Nat.add_zero] at c0
          have c0' : wr.cell? ⟨b, off + k, none⟩ = some (.slice xA xn xc) := c0
          have hlL : k < (allL t 1).length := by omega
          obtain ⟨L, hL⟩ : ∃ L, (allL t 1)[k]? = some L := ⟨_, List.getElem?_eq_getElem hlL⟩
          have hOI : OInts wr w.heap.size xA xn L := ORow.mono (ORow.below (hok3.out.2 k _ _ hx hL) hbr) hz2
          have hmem := List.mem_of_getElem? hL
          have hxn : xn ≤ 6 := by
            have e1 := (allL_in t 1 (by omega) L hmem).1
            have e2 := hOI.1
            omega
          have hst := allL_st ht hmem
          obtain ⟨hp1, hp2⟩ := hpg.out L
          have hmf := Lib.hid (mfW11 bm l xA xn xc L wr (hM3.out.below hbr hMl3) hOI.srow hxn hst htot hko.out hp1)
          have hnx := Lib.hid (take_fold (rs := rs) hL)
          have hk0 : (0 : Int) ≤ (k : Int) := Int.natCast_nonneg _
          have hk2 : (k : Int) < (rs3.length : Int) := by omega
          replace hOI := Lib.hid hOI
          generalize hP : pageN L rs = P at *
          generalize hacv : ((allL t 1).take k).foldl (pickS rs) none = acc at *
          clear hcell c0 hL hmem hst hp1 hacv
          match acc, hacc with
          | none, ⟨hv1, hv2⟩ =>
            subst hv1
            subst hv2
            have g0 : (P : Int) < 9223372036854775807 := by omega
            have hn2 : Hid (((allL t 1).take (k + 1)).foldl (pickS rs) none = some (L, P)) := Lib.hid (by rw [hnx.out, pickS, hP])
            go_wp2_with fail
            refine hmf.out.mono ?_
            rintro e w5 ⟨rfl, hb5⟩
            have hO5 := Lib.hid (ORow.below hOI.out hb5)
            have hb35 := Lib.hid (hbr.trans (hb5.mono hszr))
            clear hb5 hbr hmf
            go_wp2
            go_roundw
            case rel => exact ⟨k + 1, by omega, by go_num, by rw [hn2.out]; exact ⟨xA, xn, xc, rfl, rfl, hxn, hp2, hO5.out⟩, hb35.out⟩
            case measure => simp [intOf]; omega
          | some (bl, mn), ⟨Ab, nb, cb, hv1, hv2, hnb, hmn, hOb⟩ =>
            simp only at hv2 hmn hOb
            subst hv1
            subst hv2
            replace hOb := Lib.hid hOb
            by_cases hlm : P < mn
            · have g0 : (P : Int) < (mn : Int) := by omega
              have hn2 : Hid (((allL t 1).take (k + 1)).foldl (pickS rs) none = some (L, P)) := Lib.hid (by rw [hnx.out, pickS, hP]; exact if_pos hlm)
              go_wp2_with fail
              refine hmf.out.mono ?_
              rintro e w5 ⟨rfl, hb5⟩
              have hO5 := Lib.hid (ORow.below hOI.out hb5)
              have hb35 := Lib.hid (hbr.trans (hb5.mono hszr))
              clear hb5 hbr hmf
              go_wp2
              go_roundw
              case rel => exact ⟨k + 1, by omega, by go_num, by rw [hn2.out]; exact ⟨xA, xn, xc, rfl, rfl, hxn, hp2, hO5.out⟩, hb35.out⟩
              case measure => simp [intOf]; omega
            · have g0 : ¬ (P : Int) < (mn : Int) := by omega
              have hn2 : Hid (((allL t 1).take (k + 1)).foldl (pickS rs) none = some (bl, mn)) := Lib.hid (by rw [hnx.out, pickS, hP]; exact if_neg hlm)
              go_wp2_with fail
              refine hmf.out.mono ?_
              rintro e w5 ⟨rfl, hb5⟩
              have hO5 := Lib.hid (ORow.below hOb.out hb5)
              have hb35 := Lib.hid (hbr.trans (hb5.mono hszr))
              clear hb5 hbr hmf
              go_wp2
              go_roundw
              case rel => exact ⟨k + 1, by omega, by go_num, by rw [hn2.out]; exact ⟨Ab, nb, cb, rfl, rfl, hnb, hmn, hO5.out⟩, hb35.out⟩
              case measure => simp [intOf]; omega
        · obtain rfl : k = rs3.length := by omega
          rw [List.take_of_length_le (by omega)] at hacc
          obtain ⟨p, hp⟩ := best_some rs ht
          have hp' : (allL t 1).foldl (pickS rs) none = some p := hp
          rw [hp'] at hacc
          obtain ⟨Ab, nb, cb, rfl, rfl, hnb, hmn, hOb⟩ := hacc
          have hfin : Hid (r = (p.1, (p.2 : Int), 0)) := Lib.hid (by rw [hrr.out, hp]; rfl)
          replace hOb := Lib.hid hOb
          clear hp hp' hrr
          go_wp2
          go_ret3
          exact ⟨Ab, nb, cb, by rw [hfin.out]; rfl, by omega, by rw [hfin.out]; exact hOb.out, hb03.out.trans (hbr.mono (by omega))⟩
  · rw [← hl] at hq
    have hrr : Hid (r = ([], 0, q)) := Lib.hid (by rw [← hr, bestR_q hq hq0])
    have g1 : (q == 0) = false := beq_eq_false_iff_ne.2 hq0
    have g2 : (q != 0) = true := by rw [bne, g1]; rfl
    clear hr hq hR hg
    go_enter Try.func29, Try.ntmps29
    go_wp2_with fail
    refine hck.out.mono ?_
    rintro e w1 ⟨rfl, rfl⟩
    go_wp2
    go_ret3
    exact I3Out.bad hrr.out (Below.refl _ _)
theorem bs11_spec (B : Option Addr) (m d : Nat) (rs : List ByteArray) (k : Int) (w : World) (hR : Strs w B m rs) (hm : m ≤ 1048576) (hg : ∀ x ∈ rs, x.size ≤ maxLen) (hk : (Lit.int .i64 k).wf = true) :
    Calls Try.prog 28 #[.slice B m d, .int .i64 k] w fun e w' => ∃ A n c, e = .returned (.tuple #[.slice A n c, .int .i64 (bestR rs k).2.1, .int .i64 (bestR rs k).2.2]) ∧ n ≤ 1048576 ∧ OInts w' w.heap.size A n (bestR rs k).1 ∧ Below w.heap.size w w' := bs11_specC B m d rs k w hR hm hg
theorem bs11_impl (B : Option Addr) (m d : Nat) (rs : List ByteArray) (k : Int) (w : World) (hR : Strs w B m rs) (hm : m ≤ 1048576) (hg : ∀ x ∈ rs, x.size ≤ maxLen) (hk : (Lit.int .i64 k).wf = true) :
    Calls Try.prog 29 #[.slice B m d, .int .i64 k] w fun e w' => ∃ A n c, e = .returned (.tuple #[.slice A n c, .int .i64 (bestR rs k).2.1, .int .i64 (bestR rs k).2.2]) ∧ n ≤ 1048576 ∧ OInts w' w.heap.size A n (bestR rs k).1 ∧ Below w.heap.size w w' := bsW11 B m d rs k w hR hm hg rfl
end Go.Proofs.Ytcmmcgjpaabnoaa
