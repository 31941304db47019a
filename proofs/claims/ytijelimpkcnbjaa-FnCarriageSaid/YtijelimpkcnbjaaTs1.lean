/- Rows of a table: the program's tests. -/
import Derived.Test.YtijelimpkcnbjaaTm8
import Derived.Test.YtijelimpkcnbjaaShelf
namespace Go.Proofs.Ytijelimpkcnbjaa
open Go.RowKit Go.ChangeShapes Go.WideShapes Go.Deep
set_option linter.unusedVariables false
set_option linter.unusedSimpArgs false

theorem suffix_blank (s : ByteArray) : Lib.hasSuffix s.data.toList [32] = (!decide (s.size = 0) && decide ((bAt s (s.size - 1)).toNat = 32)) := by
  have hz : s.data.toList.length = s.size := rfl
  unfold Lib.hasSuffix bAt
  rcases List.eq_nil_or_concat s.data.toList with h | ⟨l, x, h⟩
  · rw [h] at hz ⊢
    rw [decide_eq_true (by simpa using hz.symm)]
    rfl
  · rw [h] at hz ⊢
    simp only [List.concat_eq_append, List.length_append, List.length_singleton] at hz ⊢
    rw [decide_eq_false (by omega)]
    have e : (l ++ [x]).getD (s.size - 1) 0 = x := by
      rw [← hz, Nat.add_sub_cancel, List.getD, List.getElem?_append_right (Nat.le_refl _)]
      simp
    rw [e]
    have e2 : ([32] : List UInt8).isSuffixOf (l ++ [x]) = (x == 32) := by
      simp only [List.isSuffixOf, List.reverse_append, List.reverse_cons, List.reverse_nil, List.nil_append, List.cons_append, List.isPrefixOf, Bool.and_true]
      rw [Bool.eq_iff_iff]
      simp only [beq_iff_eq]
      exact ⟨Eq.symm, Eq.symm⟩
    rw [e2]
    simp only [Bool.not_false, Bool.true_and]
    by_cases hx : x = 32
    · subst hx; rfl
    · have : ¬ x.toNat = 32 := fun h => hx (UInt8.toNat_inj.1 h)
      rw [decide_eq_false this]
      simpa using hx
theorem noRow11 (s : ByteArray) {v : Bool} (hv : rowB s = v) (w : World) (hs : s.size ≤ maxLen) :
    Calls Try.prog 29 #[.string s] w fun e w' => e = .returned (.bool (!v)) ∧ w = w' := by
  have hres := Lib.hid hv
  unfold rowB at hres
  clear hv
  have hsf := suffix_blank s
  have hs2 : s.size ≤ 9223372036854775807 := by unfold maxLen at hs; omega
  have hc := Lib.hid (fun W => hasBytes_any s 32 126 30 (decide ((s.size : Int) ≤ 30) && bytesIn 32 126 s) rfl W hs)
  have hf := Lib.hid (fun W => Try.strings_HasSuffix s ⟨#[32]⟩ W hs2)
  generalize (decide ((s.size : Int) ≤ 30) && bytesIn 32 126 s) = t at *
  cases t with
  | false =>
    have hr : Hid (v = false) := Lib.hid (by rw [← hres.out]; rfl)
    clear hsf
    go_enter Try.func29, Try.ntmps29
    go_wp2_with fail
    refine (hc.out _).mono ?_
    rintro e w1 ⟨rfl, rfl⟩
    go_wp2
    go_ret
    exact ⟨by rw [hr.out]; rfl, rfl⟩
  | true =>
    have hr : Hid (Lib.hasSuffix s.data.toList [32] = !v) := Lib.hid (by
      rw [hsf, ← hres.out]
      cases decide (s.size = 0) <;> cases decide ((bAt s (s.size - 1)).toNat = 32) <;> rfl)
    replace hf : Hid (∀ W, Calls Try.prog 40 #[.string s, .string ⟨#[32]⟩] W fun e w' => e = .returned (.bool (!v)) ∧ w' = W) := Lib.hid (fun W => by
      have := hf.out W
      rw [show (⟨#[32]⟩ : ByteArray).data.toList = [32] from rfl, hr.out] at this
      exact this)
    clear hsf hres
    generalize (!v) = u at *
    go_enter Try.func29, Try.ntmps29
    go_wp2_with fail
    refine (hc.out _).mono ?_
    rintro e w1 ⟨rfl, rfl⟩
    go_wp2_with fail
    refine (hf.out _).mono ?_
    rintro e w1 ⟨rfl, rfl⟩
    go_wp2
    go_ret
    exact ⟨rfl, rfl⟩
theorem idxRow11 (A : Option Addr) (n c : Nat) (xs : List ByteArray) {v : Bool} (hv : xs.all rowB = v) (w : World) (h : Strs w A n xs) (hn : n ≤ 1048576) (hg : ∀ x ∈ xs, x.size ≤ maxLen) :
    Calls Try.prog 38 #[.slice A n c, .func (.func 29) #[] #[]] w fun e w' => (∃ i : Int, e = .returned (.int .i64 i) ∧ decide (0 ≤ i) = !v) ∧ w = w' := by
  have hv0 := Lib.hid hv
  replace hg := Lib.hid hg
  clear hv
  go_enter Try.func38, Try.ntmps38
  go_wp2
  go_loopw [8] (fun i wr => ∃ k : Nat, k ≤ n ∧ i = .int .i64 k ∧ w = wr ∧ xs.all rowB = (xs.drop k).all rowB) (fun i _ => n - (intOf i).toNat)
  case atStart => exact ⟨0, by omega, rfl, rfl, rfl⟩
  case round =>
    obtain ⟨k, hk, rfl, rfl, he⟩ := hrel
    replace he := Lib.hid he
    by_cases hlt : k < n
    · obtain ⟨b, off, x, rfl, hb, hx, c0⟩ := str_at h hlt
      have hst := Lib.hid (all8_drop (p := rowB) hx.out)
      have hxm := hg.out x (List.mem_of_getElem? hx.out)
      have hk0 : (0 : Int) ≤ (k : Int) := Int.natCast_nonneg _
      have hk1 : (k : Int) < (n : Int) := by omega
      cases h1 : rowB x with
      | false =>
        have hr : Hid (v = false) := Lib.hid (by rw [← hv0.out, he.out, hst.out, h1]; rfl)
        have hj := Lib.hid (fun W => noRow11 x h1 W hxm)
        clear h1 hxm
        go_wp2_with fail
        refine (hj.out _).mono ?_
        rintro e w1 ⟨rfl, rfl⟩
        go_wp2
        go_ret
        exact ⟨⟨_, rfl, by rw [hr.out]; simp⟩, rfl⟩
      | true =>
        have hnx : Hid (xs.all rowB = (xs.drop (k + 1)).all rowB) := Lib.hid (by rw [he.out, hst.out, h1]; rfl)
        have hj := Lib.hid (fun W => noRow11 x h1 W hxm)
        clear h1 hxm
        go_wp2_with fail
        refine (hj.out _).mono ?_
        rintro e w1 ⟨rfl, rfl⟩
        go_wp2
        go_roundw
        case rel => exact ⟨k + 1, by omega, by go_num, by trivial, hnx.out⟩
        case measure => simp [intOf]; omega
    · obtain rfl : k = n := by omega
      have hr : Hid (v = true) := Lib.hid (by rw [← hv0.out, he.out, all8_end (by rw [h.1]; omega)])
      go_wp2
      go_ret
      exact ⟨⟨_, rfl, by rw [hr.out]; rfl⟩, rfl⟩
theorem hasRow11 (A : Option Addr) (n c : Nat) (xs : List ByteArray) {v : Bool} (hv : xs.all rowB = v) (w : World) (h : Strs w A n xs) (hn : n ≤ 1048576) (hg : ∀ x ∈ xs, x.size ≤ maxLen) :
    Calls Try.prog 28 #[.slice A n c, .func (.func 29) #[] #[]] w fun e w' => e = .returned (.bool (!v)) ∧ w = w' := by
  have hi := Lib.hid (idxRow11 A n c xs hv w h hn hg)
  clear hv h hg
  go_enter Try.func28, Try.ntmps28
  go_wp2_with fail
  refine (hi.out).mono ?_
  rintro e w1 ⟨⟨i, rfl, hd⟩, rfl⟩
  replace hd := Lib.hid hd
  go_wp2
  go_ret
  exact ⟨ret_bo hd.out, rfl⟩
/-- The code of the rows of a page. -/
def rowsC (n : Nat) (rs : List ByteArray) : Int := if 12 < n then 1 else if rs.all rowB = true then 0 else 2
theorem checkRows11 (A : Option Addr) (n c : Nat) (rs : List ByteArray) {q : Int} (hq : rowsC n rs = q) (w : World) (h : Strs w A n rs) (hn : n ≤ 1048576) (hg : ∀ x ∈ rs, x.size ≤ maxLen) :
    Calls Try.prog 17 #[.slice A n c] w fun e w' => e = .returned (.int .i64 q) ∧ w = w' := by
  by_cases h12 : 12 < n
  · have hr : Hid (q = 1) := Lib.hid (by rw [← hq, rowsC, if_pos h12])
    have g1 : decide ((12 : Int) < (n : Int)) = true := decide_eq_true (by omega)
    have g2 : decide (12 < n) = true := decide_eq_true h12
    replace h12 := Lib.hid h12
    clear hq h hg
    go_enter Try.func17, Try.ntmps17
    go_wp2
    go_ret
    exact ⟨ret_i64 hr.out.symm, rfl⟩
  · have g1 : decide ((12 : Int) < (n : Int)) = false := decide_eq_false (by omega)
    have g2 : decide (12 < n) = false := decide_eq_false h12
    cases hv : rs.all rowB with
    | true =>
      have hr : Hid (q = 0) := Lib.hid (by rw [← hq, rowsC, if_neg h12, if_pos hv])
      have hc := Lib.hid (hasRow11 A n c rs hv w h hn hg)
      replace h12 := Lib.hid h12
      clear hq h hg hv
      go_enter Try.func17, Try.ntmps17
      go_wp2_with fail
      refine hc.out.mono ?_
      rintro e w1 ⟨rfl, rfl⟩
      go_wp2
      go_ret
      exact ⟨ret_i64 hr.out.symm, rfl⟩
    | false =>
      have hr : Hid (q = 2) := Lib.hid (by rw [← hq, rowsC, if_neg h12, if_neg (by rw [hv]; simp)])
      have hc := Lib.hid (hasRow11 A n c rs hv w h hn hg)
      replace h12 := Lib.hid h12
      clear hq h hg hv
      go_enter Try.func17, Try.ntmps17
      go_wp2_with fail
      refine hc.out.mono ?_
      rintro e w1 ⟨rfl, rfl⟩
      go_wp2
      go_ret
      exact ⟨ret_i64 hr.out.symm, rfl⟩
end Go.Proofs.Ytijelimpkcnbjaa
