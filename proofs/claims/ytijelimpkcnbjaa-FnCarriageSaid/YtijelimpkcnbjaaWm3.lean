/- PageMoves: the program. -/
import Derived.Test.YtijelimpkcnbjaaWm2
import Derived.Test.YtijelimpkcnbjaaTs1
import Derived.Test.YtijelimpkcnbjaaTm10
namespace Go.Proofs.Ytijelimpkcnbjaa
open Go.RowKit Go.ChangeShapes Go.WideShapes Go.Deep
set_option linter.unusedVariables false
set_option linter.unusedSimpArgs false

theorem rowMv_k (ps : List Int) (s : ByteArray) : ∀ k, (plS ps s k).2.2 = (((ltF s k).1.filter fun x => !decide (x.1 = x.2.1)).map fun x => wayN ps (x.1, x.2.1)).sum
  | 0 => rfl
  | k + 1 => by
    have ih := rowMv_k ps s k
    by_cases h : (bAt s k).toNat = 32
    · rw [plS_space h, ltF, if_pos h, ih]
    · rw [plS_letter h, ltF, if_neg h, List.filter_append, List.map_append, List.sum_append, ← ih]
      show (plS ps s k).2.2 + (wayP ps k (plS ps s k).2.1).length = _
      rw [plS_at2]
      by_cases h2 : (ltF s k).2 = k
      · rw [List.filter_cons_of_neg (by simp [h2]), h2, way_self]
        rfl
      · rw [List.filter_cons_of_pos (by simp [h2])]
        simp [wayN]
theorem rowMv_sum (ps : List Int) (s : ByteArray) : rowMv ps s = rowSum (wayN ps) s := rowMv_k ps s s.size
theorem pageN_sum (ps : List Int) (rs : List ByteArray) : pageN ps rs = (rs.map (rowSum (wayN ps))).sum := by
  rw [pageN]
  congr 1
  exact List.map_congr_left fun x _ => rowMv_sum ps x
theorem pgR_1 {ps : List Int} {rs : List ByteArray} (h : stB ps = false) : pgR ps rs = (0, 1) := by rw [pgR, h]; rfl
theorem pgR_q {ps : List Int} {rs : List ByteArray} {q : Int} (h : stB ps = true) (hq : rowsC rs.length rs = q) (h0 : q ≠ 0) : pgR ps rs = (0, q) := by
  rw [pgR, h]
  rw [rowsC] at hq
  by_cases h12 : 12 < rs.length
  · rw [if_pos h12] at hq
    rw [decide_eq_false (by omega), ← hq]; rfl
  · rw [if_neg h12] at hq
    rw [decide_eq_true (by omega)]
    by_cases h3 : rs.all rowB = true
    · rw [if_pos h3] at hq; omega
    · rw [if_neg h3] at hq ⊢
      rw [← hq]; rfl
theorem rowsC_0 {rs : List ByteArray} (hq : rowsC rs.length rs = 0) : rs.length ≤ 12 ∧ rs.all rowB = true := by
  rw [rowsC] at hq
  by_cases h12 : 12 < rs.length
  · rw [if_pos h12] at hq; omega
  · rw [if_neg h12] at hq
    by_cases h3 : rs.all rowB = true
    · exact ⟨by omega, h3⟩
    · rw [if_neg h3] at hq; omega
theorem rowsC_two (n : Nat) (rs : List ByteArray) : rowsC n rs = 0 ∨ rowsC n rs = 1 ∨ rowsC n rs = 2 := by
  unfold rowsC
  split
  · exact .inr (.inl rfl)
  · split
    · exact .inl rfl
    · exact .inr (.inr rfl)
theorem pgR_0 {ps : List Int} {rs : List ByteArray} (h : stB ps = true) (hq : rowsC rs.length rs = 0) : pgR ps rs = ((pageN ps rs : Int), 0) := by
  obtain ⟨h1, h2⟩ := rowsC_0 hq
  rw [pgR, h, decide_eq_true h1, if_pos (by rfl), if_pos h2]
set_option maxRecDepth 100000 in
set_option maxHeartbeats 2400000 in
theorem pgW11 (A : Option Addr) (n c : Nat) (ps : List Int) (B : Option Addr) (m d : Nat) (rs : List ByteArray) (w : World) (h : Ints w A n ps) (hn : n ≤ 1048576) (hR : Strs w B m rs) (hm : m ≤ 1048576) (hg : ∀ x ∈ rs, x.size ≤ maxLen) {r : Int × Int} (hr : pgR ps rs = r) :
    Calls Try.prog 8 #[.slice A n c, .slice B m d] w fun e w' => e = .returned (.tuple #[.int .i64 r.1, .int .i64 r.2]) ∧ Below w.heap.size w w' := by
  cases h1 : stB ps with
  | false =>
    have hc := Lib.hid (vs11_implV A n c ps h1 w h hn)
    have hrr : Hid (r = (0, 1)) := Lib.hid (by rw [← hr, pgR_1 h1])
    clear h1 hr h hR hg
    go_enter Try.func8, Try.ntmps8
    go_wp2_with fail
    refine hc.out.mono ?_
    rintro e w1 ⟨rfl, rfl⟩
    go_wp2
    go_ret2
    exact ⟨by rw [hrr.out]; rfl, Below.refl _ _⟩
  | true =>
    have hc := Lib.hid (vs11_implV A n c ps h1 w h hn)
    have hn6 : n ≤ 6 := by
      have h2 := h1
      rw [stB, Bool.and_eq_true, decide_eq_true_eq, h.1] at h2
      exact h2.1
    have hl := hR.1
    obtain ⟨q, hq⟩ : ∃ q, rowsC m rs = q := ⟨_, rfl⟩
    have hck := Lib.hid (checkRows11 B m d rs hq w hR hm hg)
    by_cases hq0 : q = 0
    · subst hq0
      rw [← hl] at hq
      have hrr : Hid (r = ((pageN ps rs : Int), 0)) := Lib.hid (by rw [← hr, pgR_0 h1 hq])
      obtain ⟨k1, k2⟩ := rowsC_0 hq
      have hcw := Lib.hid (cwW11 B m d rs w hR (by omega) k2)
      clear hr hq hR hg
      go_enter Try.func8, Try.ntmps8
      go_wp2_with fail
      refine hc.out.mono ?_
      rintro e w1 ⟨rfl, rfl⟩
      go_wp2_with fail
      refine hck.out.mono ?_
      rintro e w1 ⟨rfl, rfl⟩
      go_wp2_with fail
      refine hcw.out.mono ?_
      rintro e w2 ⟨bm, l, rfl, hM, hbm, hb2, htot, hko, hsum⟩
      have hmf := Lib.hid (mfW11 bm l A n c ps w2 hM (h.below hb2) hn6 h1 htot hko (R := pageN ps rs) (by rw [hsum, pageN_sum]))
      clear hM hsum hko
      go_wp2_with fail
      refine hmf.out.mono ?_
      rintro e w3 ⟨rfl, hb3⟩
      go_wp2
      go_ret2
      exact ⟨by rw [hrr.out]; rfl, hb2.step hb3⟩
    · rw [← hl] at hq
      have hrr : Hid (r = (0, q)) := Lib.hid (by rw [← hr, pgR_q h1 hq hq0])
      have g1 : (q == 0) = false := beq_eq_false_iff_ne.2 hq0
      have g2 : (q != 0) = true := by rw [bne, g1]; rfl
      clear hr hq hR hg h h1
      go_enter Try.func8, Try.ntmps8
      go_wp2_with fail
      refine hc.out.mono ?_
      rintro e w1 ⟨rfl, rfl⟩
      go_wp2_with fail
      refine hck.out.mono ?_
      rintro e w1 ⟨rfl, rfl⟩
      go_wp2
      go_ret2
      exact ⟨by rw [hrr.out]; rfl, Below.refl _ _⟩
theorem pg11_impl (A : Option Addr) (n c : Nat) (ps : List Int) (B : Option Addr) (m d : Nat) (rs : List ByteArray) (w : World) (h : Ints w A n ps) (hn : n ≤ 1048576) (hx : ∀ x ∈ ps, intGood x) (hR : Strs w B m rs) (hm : m ≤ 1048576) (hg : ∀ x ∈ rs, x.size ≤ maxLen) :
    Calls Try.prog 8 #[.slice A n c, .slice B m d] w fun e w' => e = .returned (.tuple #[.int .i64 (pgR ps rs).1, .int .i64 (pgR ps rs).2]) ∧ Below w.heap.size w w' := pgW11 A n c ps B m d rs w h hn hR hm hg rfl
end Go.Proofs.Ytijelimpkcnbjaa
