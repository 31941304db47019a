/- Corrections: the places that have been erased too often, by the program. -/
import Derived.Test.YtomnnhmhmehdjaaDd2
import Derived.Test.YtomnnhmhmehdjaaCo3
namespace Go.Proofs.Ytomnnhmhmehdjaa
open Go.RowKit Go.ChangeShapes Go.WideShapes Go.Deep
set_option linter.unusedVariables false
set_option linter.unusedSimpArgs false

theorem nocor12w (p : ByteArray) {v : Bool} (hv : planB p = v) (w : World) (hp : p.size ≤ maxLen) :
    Calls Try.prog 67 #[.string p] w fun e w' => e = .returned (.bool (!v)) ∧ Below w.heap.size w w' := by
  have hc := Lib.hid (fun W => deeds12 p hv W hp)
  clear hv
  go_enter Try.func67, Try.ntmps67
  go_wp2_with fail
  refine (hc.out _).mono ?_
  rintro e w1 ⟨x, rfl, hb1, _⟩
  go_wp2
  go_ret
  exact ⟨rfl, hb1⟩
set_option maxHeartbeats 800000 in
theorem idx_nocor12w (A : Option Addr) (n c : Nat) (ps : List ByteArray) {v : Bool} (hv : ps.all planB = v) (w : World) (h : Strs w A n ps) (hn : n ≤ 1048576) (hg : ∀ s ∈ ps, s.size ≤ maxLen) :
    Calls Try.prog 95 #[.slice A n c, .func (.func 67) #[] #[]] w fun e w' => (∃ i : Int, e = .returned (.int .i64 i) ∧ decide (0 ≤ i) = !v) ∧ Below w.heap.size w w' := by
  have hv0 := Lib.hid hv
  have hl := Lib.hid h.1
  have hg0 := Lib.hid hg
  clear hv hg
  go_enter Try.func95, Try.ntmps95
  go_wp2
  go_loopw [4, 8] (fun _ i wr => ∃ k : Nat, k ≤ n ∧ i = .int .i64 k ∧ ps.all planB = (ps.drop k).all planB ∧ Below w.heap.size w wr) (fun _ i _ => n - (intOf i).toNat)
  case atStart => exact ⟨0, by omega, rfl, rfl, Below.refl _ _⟩
  case round =>
    rename World => wr
    obtain ⟨k, hk, rfl, he, hbw⟩ := hrel
    replace he := Lib.hid he
    by_cases hlt : k < n
    · obtain ⟨b, off, x, rfl, hb, hx, c0⟩ := str_at (h.below hbw) hlt
      have hst := Lib.hid (all8_drop (p := planB) hx.out)
      have hxs := hg0.out x (List.mem_of_getElem? hx.out)
      have hk0 : (0 : Int) ≤ (k : Int) := Int.natCast_nonneg _
      have hk1 : (k : Int) < (n : Int) := by omega
      cases h1 : planB x with
      | false =>
        have hr : Hid (v = false) := Lib.hid (by rw [← hv0.out, he.out, hst.out]; simp only [h1]; rfl)
        have hj := Lib.hid (nocor12w x h1 wr hxs)
        clear h1
        go_wp2_with fail
        refine (hj.out).mono ?_
        rintro e w1 ⟨rfl, hb1⟩
        go_wp2
        go_ret
        exact ⟨⟨_, rfl, by rw [hr.out]; simp⟩, hbw.step hb1⟩
      | true =>
        have hnx : Hid (ps.all planB = (ps.drop (k + 1)).all planB) := Lib.hid (by rw [he.out, hst.out]; simp only [h1]; rfl)
        have hj := Lib.hid (nocor12w x h1 wr hxs)
        clear h1
        go_wp2_with fail
        refine (hj.out).mono ?_
        rintro e w1 ⟨rfl, hb1⟩
        have hbn := Lib.hid (hbw.step hb1)
        clear hbw hb1
        go_wp2
        go_roundw
        case rel => exact ⟨k + 1, by omega, by go_num, hnx.out, hbn.out⟩
        case measure => simp [intOf]; omega
    · obtain rfl : k = n := by omega
      have hr : Hid (v = true) := Lib.hid (by rw [← hv0.out, he.out, all8_end (by rw [hl.out]; omega)])
      go_wp2
      go_ret
      exact ⟨⟨_, rfl, by rw [hr.out]; rfl⟩, hbw⟩
theorem has_nocor12w (A : Option Addr) (n c : Nat) (ps : List ByteArray) {v : Bool} (hv : ps.all planB = v) (w : World) (h : Strs w A n ps) (hn : n ≤ 1048576) (hg : ∀ s ∈ ps, s.size ≤ maxLen) :
    Calls Try.prog 70 #[.slice A n c, .func (.func 67) #[] #[]] w fun e w' => e = .returned (.bool (!v)) ∧ Below w.heap.size w w' := by
  have hi := Lib.hid (idx_nocor12w A n c ps hv w h hn hg)
  clear hv h hn hg
  go_enter Try.func70, Try.ntmps70
  go_wp2_with fail
  refine (hi.out).mono ?_
  rintro e w1 ⟨⟨i, rfl, hd⟩, hb1⟩
  replace hd := Lib.hid hd
  go_wp2
  go_ret
  exact ⟨ret_bo hd.out, hb1⟩
/-- A row of sixty numbers. -/
def arr60 (E : Nat → Nat) : Array Value := ((List.range 60).map fun a => Value.int .i64 (E a : Int)).toArray
theorem arr60_at (E : Nat → Nat) {a : Nat} (h : a < 60) : (arr60 E)[a]? = some (.int .i64 (E a : Int)) := by
  unfold arr60
  rw [List.getElem?_toArray, List.getElem?_map, List.getElem?_range h]; rfl
theorem arr60_size (E : Nat → Nat) : (arr60 E).size = 60 := by simp [arr60]
theorem arr60_set (E F : Nat → Nat) {j : Nat} (hj : j < 60) (h0 : F j = E j + 1) (h1 : ∀ a, a ≠ j → F a = E a) : (arr60 E).setIfInBounds j (.int .i64 ((E j + 1 : Nat) : Int)) = arr60 F := by
  apply Array.ext'
  apply List.ext_getElem?
  intro i
  rw [Array.toList_setIfInBounds, List.getElem?_set]
  by_cases hij : j = i
  · subst hij
    rw [if_pos rfl, if_pos (by simp [arr60]; exact hj), Array.getElem?_toList, arr60_at F hj, h0]
  · rw [if_neg hij, Array.getElem?_toList, Array.getElem?_toList]
    by_cases hi : i < 60
    · rw [arr60_at E hi, arr60_at F hi, h1 i (fun e => hij e.symm)]
    · rw [Array.getElem?_eq_none (by rw [arr60_size]; omega), Array.getElem?_eq_none (by rw [arr60_size]; omega)]
theorem arr60_same {E F : Nat → Nat} (h : ∀ a, a < 60 → E a = F a) : arr60 E = arr60 F := by
  unfold arr60
  congr 1
  apply List.map_congr_left
  intro a ha
  rw [h a (by simpa using ha)]
/-- How often the places have been erased, by the first plans and a part of the next one. -/
def cntE (ps : List ByteArray) (k : Nat) (p : ByteArray) (j : Nat) (a : Nat) : Nat := eraN (ps.take k) a + if a < j ∧ (bAt p a).toNat = 35 then 1 else 0
theorem cntE_0 (ps : List ByteArray) (k : Nat) (p : ByteArray) (a : Nat) : cntE ps k p 0 a = eraN (ps.take k) a := by
  rw [cntE, if_neg (by omega), Nat.add_zero]
theorem cntE_end {ps : List ByteArray} {k : Nat} {p : ByteArray} (h : ps[k]? = some p) (a : Nat) : cntE ps k p p.size a = eraN (ps.take (k + 1)) a := by
  rw [cntE, eraN_next h]
  congr 1
  by_cases h1 : a < p.size <;> by_cases h2 : (bAt p a).toNat = 35 <;> simp [h1, h2]
theorem cntE_hit {ps : List ByteArray} {k : Nat} {p : ByteArray} {j : Nat} (h : (bAt p j).toNat = 35) : cntE ps k p (j + 1) j = cntE ps k p j j + 1 ∧ ∀ a, a ≠ j → cntE ps k p (j + 1) a = cntE ps k p j a := by
  refine ⟨?_, fun a ha => ?_⟩
  · rw [cntE, cntE, if_pos ⟨by omega, h⟩, if_neg (by omega)]
  · rw [cntE, cntE]
    congr 1
    by_cases h1 : a < j ∧ (bAt p a).toNat = 35
    · rw [if_pos h1, if_pos ⟨by omega, h1.2⟩]
    · rw [if_neg h1, if_neg (fun h2 => h1 ⟨by omega, h2.2⟩)]
theorem cntE_miss {ps : List ByteArray} {k : Nat} {p : ByteArray} {j : Nat} (h : ¬ (bAt p j).toNat = 35) (a : Nat) : cntE ps k p (j + 1) a = cntE ps k p j a := by
  rw [cntE, cntE]
  congr 1
  by_cases h1 : a < j ∧ (bAt p a).toNat = 35
  · rw [if_pos h1, if_pos ⟨by omega, h1.2⟩]
  · rw [if_neg h1, if_neg (fun h2 => h1 ⟨by
      rcases Nat.lt_or_ge a j with h3 | h3
      · exact h3
      · obtain rfl : a = j := by omega
        exact absurd h2.2 h, h2.2⟩)]
theorem cntE_le (ps : List ByteArray) (k : Nat) (p : ByteArray) (j a : Nat) (h : ps.length ≤ 20) : cntE ps k p j a ≤ 21 := by
  have h1 := eraN_le (ps.take k) a
  have h2 : (ps.take k).length ≤ 20 := by rw [List.length_take]; omega
  rw [cntE]
  split <;> omega
end Go.Proofs.Ytomnnhmhmehdjaa
