/- A press read from its text: the program and the model answer the same for every text of at most 2^20 bytes, where the library's listed variables hold what their text lays. -/
import Derived.Test.YtkdpileflddohaaDoorReadDec
import Derived.Test.YtkdpileflddohaaDoorPressText
namespace Go.Proofs.YtkdpileflddohaaDoor
open Go.RowKit Go.Lib
set_option linter.unusedVariables false
set_option linter.unusedSimpArgs false

/-- What is left behind the sign of the shift, and whether there is one. -/
def behind (l : List UInt8) : List UInt8 := if l.head? = some 94 then l.tail else l
def shifted (l : List UInt8) : Bool := l.head? == some 94
def pressOk (l : List UInt8) : Bool := numOk (behind l) && (decide (0 ≤ numVal (behind l)) && decide (numVal (behind l) ≤ 39))
def pressVal (l : List UInt8) : Value := if pressOk l then .agg #[.int .i64 (numVal (behind l)), .bool (shifted l)] else .agg #[.int .i64 0, .bool false]

theorem behind_caret (r : List UInt8) : behind (94 :: r) = r := rfl
theorem behind_other {c : UInt8} (r : List UInt8) (h : c ≠ 94) : behind (c :: r) = c :: r := by
  unfold behind
  rw [if_neg (by simpa using h)]
theorem shifted_caret (r : List UInt8) : shifted (94 :: r) = true := rfl
theorem shifted_other {c : UInt8} (r : List UInt8) (h : c ≠ 94) : shifted (c :: r) = false := by
  unfold shifted
  simpa using h

theorem list_of_first {s : ByteArray} (h : 0 < s.size) : s.data.toList = s[0] :: s.data.toList.drop 1 := by
  have := List.drop_eq_getElem_cons (l := s.data.toList) (i := 0) (by show 0 < s.size; exact h)
  rw [List.drop_zero] at this
  exact this

theorem press_no {l : List UInt8} (h : numOk (behind l) = false) : pressOk l = false := by
  unfold pressOk
  rw [h]
  rfl
theorem press_out {l : List UInt8} (h : (decide (0 ≤ numVal (behind l)) && decide (numVal (behind l) ≤ 39)) = false) : pressOk l = false := by
  unfold pressOk
  rw [h]
  simp
theorem press_yes {l : List UInt8} (h : numOk (behind l) = true) (h2 : (decide (0 ≤ numVal (behind l)) && decide (numVal (behind l) ≤ 39)) = true) : pressOk l = true := by
  unfold pressOk
  rw [h, h2]
  rfl
theorem ret_press_no {l : List UInt8} (h : pressOk l = false) : Ending.returned (.tuple #[.agg #[.int .i64 0, .bool false], .bool false]) = .returned (.tuple #[pressVal l, .bool (pressOk l)]) := by
  unfold pressVal
  rw [h]
  rfl
theorem ret_press_yes {l : List UInt8} {k : Int} {b : Bool} (h : pressOk l = true) (hk : k = numVal (behind l)) (hb : b = shifted l) : Ending.returned (.tuple #[.agg #[.int .i64 k, .bool b], .bool true]) = .returned (.tuple #[pressVal l, .bool (pressOk l)]) := by
  unfold pressVal
  rw [h, hk, hb]
  rfl
theorem numAns_yes {l : List UInt8} (h : numOk l = true) : numAns l = numVal l := by rw [numAns, h]; rfl

/-- number_spec at a text of which the answer is known. -/
theorem number_is (T : ByteArray) (x : Int) (b : Bool) (hx : numAns T.data.toList = x) (hb : numOk T.data.toList = b) (hs : T.size ≤ maxLen) (w : World) :
    Calls Tryd.prog 19 #[.string T] w fun e w' => e = .returned (.tuple #[.int .i64 x, .bool b]) ∧ Below w.heap.size w w' := hx ▸ hb ▸ number_spec T w hs

/-- The cells of the last block but one, behind a call. -/
theorem twoBlocks {w w1 : World} {a b : Value} {o : Obj} {t : TypeId} (hb : Below ((w.alloc (.cells #[a, b] t)).alloc o).heap.size ((w.alloc (.cells #[a, b] t)).alloc o) w1) :
    w1.cell? ⟨w.heap.size, 0, none⟩ = some a ∧ w1.cell? ⟨w.heap.size, 1, none⟩ = some b ∧ w1.frozen? ⟨w.heap.size, 0, none⟩ = false ∧ w1.frozen? ⟨w.heap.size, 1, none⟩ = false := by
  obtain ⟨hc, hf⟩ := bcell hb
  have hz : w.heap.size < ((w.alloc (.cells #[a, b] t)).alloc o).heap.size := by simp; omega
  refine ⟨?_, ?_, ?_, ?_⟩
  · rw [hc _ _ hz]; go_simp
  · rw [hc _ _ hz]; go_simp
  · rw [hf _ _ hz]; go_simp
  · rw [hf _ _ hz]; go_simp

/-- The cells of the last block, behind a call. -/
theorem lastBlock {w w1 : World} {a b : Value} {o : Obj} {t : TypeId} (hb : Below ((w.alloc o).alloc (.cells #[a, b] t)).heap.size ((w.alloc o).alloc (.cells #[a, b] t)) w1) :
    w1.cell? ⟨w.heap.size + 1, 0, none⟩ = some a ∧ w1.cell? ⟨w.heap.size + 1, 1, none⟩ = some b ∧ w1.frozen? ⟨w.heap.size + 1, 0, none⟩ = false ∧ w1.frozen? ⟨w.heap.size + 1, 1, none⟩ = false := by
  obtain ⟨hc, hf⟩ := bcell hb
  have hz : w.heap.size + 1 < ((w.alloc o).alloc (.cells #[a, b] t)).heap.size := by simp
  refine ⟨?_, ?_, ?_, ?_⟩
  · rw [hc _ _ hz]; go_simp
  · rw [hc _ _ hz]; go_simp
  · rw [hf _ _ hz]; go_simp
  · rw [hf _ _ hz]; go_simp

set_option maxHeartbeats 1600000 in
theorem readPress_caret (s T : ByteArray) (hT : T.data.toList = behind s.data.toList) (hsz : T.size ≤ maxLen) (h0' : 0 < s.size) (hs : s.size ≤ 1048576) (h94 : (s[0]'h0').toNat = 94) (hTe : s.extract 1 s.size = T) (w : World) :
    Calls Tryd.prog 14 #[.string s] w fun e w' => e = .returned (.tuple #[pressVal s.data.toList, .bool (pressOk s.data.toList)]) ∧ Below w.heap.size w w' := by
  have hsh : Hid (shifted s.data.toList = true) := Lib.hid (by
    rw [list_of_first h0', show s[0] = 94 from UInt8.toNat.inj (by simpa using h94)]
    rfl)
  have h94' : (((s[0]'h0').toNat : Int) == 94) = true := beq_iff_eq.2 (by omega)
  have hp0 : decide ((0 : Int) < (s.size : Int)) = true := decide_eq_true (by omega)
  clear h94
  cases hok : numOk T.data.toList with
  | false =>
    have hres := Lib.hid (press_no (l := s.data.toList) (by rw [← hT]; exact hok))
    have hx : Hid (numAns T.data.toList = 0) := Lib.hid (by rw [numAns, hok]; rfl)
    replace hok := Lib.hid hok
    replace hT := Lib.hid hT
    go_enter Tryd.func14, Tryd.ntmps14
    go_wp2_with fail
    refine (number_is T 0 false hx.out hok.out hsz _).mono ?_
    rintro e w1 ⟨rfl, hb1⟩
    obtain ⟨d0, d1, e0, e1⟩ := twoBlocks hb1
    have B1 := Lib.hid (Below.trans (((Below.refl _ w).alloc (Nat.le_refl _) _).alloc (by simp) _) (hb1.mono (by simp; omega)))
    clear hb1
    go_wp2
    exact bodyPost_ret (v := .tuple #[.agg #[.int .i64 0, .bool false], .bool false]) (by simp [results, Tryd.results14, go_sem, d0, d1]) rfl ⟨ret_press_no hres.out, (B1.out.setCell (Nat.le_refl _) _).setCell (Nat.le_refl _) _⟩
  | true =>
    have hx := Lib.hid (numAns_yes hok)
    by_cases hin : (decide (0 ≤ numVal T.data.toList) && decide (numVal T.data.toList ≤ 39)) = true
    · have hres := Lib.hid (press_yes (l := s.data.toList) (by rw [← hT]; exact hok) (by rw [← hT]; exact hin))
      obtain ⟨k, hk⟩ : ∃ k : Int, numVal T.data.toList = k := ⟨_, rfl⟩
      have hkv : Hid (k = numVal (behind s.data.toList)) := Lib.hid (by rw [← hT, hk])
      rw [hk] at hin hx
      replace hok := Lib.hid hok
      replace hT := Lib.hid hT
      replace hin := Lib.hid hin
      clear hk
      go_enter Tryd.func14, Tryd.ntmps14
      go_wp2_with fail
      refine (number_is T k true hx.out hok.out hsz _).mono ?_
      rintro e w1 ⟨rfl, hb1⟩
      obtain ⟨d0, d1, e0, e1⟩ := twoBlocks hb1
      obtain ⟨d2, d3, e2, e3⟩ := lastBlock hb1
      have B1 := Lib.hid (Below.trans (((Below.refl _ w).alloc (Nat.le_refl _) _).alloc (by simp) _) (hb1.mono (by simp; omega)))
      clear hb1
      go_wp2_with (go_at_call 22; refine (in_any k 0 39 true hin.out.symm _).mono ?_; rintro e w' ⟨rfl, rfl⟩)
      exact bodyPost_ret (v := .tuple #[.agg #[.int .i64 k, .bool true], .bool true]) (by simp [results, Tryd.results14, go_sem, d0, d1, d2, d3]) rfl ⟨ret_press_yes hres.out hkv.out hsh.out.symm, ((B1.out.setCell (by simp) _).setCell (Nat.le_refl _) _).setCell (Nat.le_refl _) _⟩
    · have hin' : (decide (0 ≤ numVal T.data.toList) && decide (numVal T.data.toList ≤ 39)) = false := by simpa using hin
      have hres := Lib.hid (press_out (l := s.data.toList) (by rw [← hT]; exact hin'))
      obtain ⟨k, hk⟩ : ∃ k : Int, numVal T.data.toList = k := ⟨_, rfl⟩
      rw [hk] at hin' hx
      replace hok := Lib.hid hok
      replace hT := Lib.hid hT
      replace hin' := Lib.hid hin'
      clear hk hin
      go_enter Tryd.func14, Tryd.ntmps14
      go_wp2_with fail
      refine (number_is T k true hx.out hok.out hsz _).mono ?_
      rintro e w1 ⟨rfl, hb1⟩
      obtain ⟨d0, d1, e0, e1⟩ := twoBlocks hb1
      have B1 := Lib.hid (Below.trans (((Below.refl _ w).alloc (Nat.le_refl _) _).alloc (by simp) _) (hb1.mono (by simp; omega)))
      clear hb1
      go_wp2_with (go_at_call 22; refine (in_any k 0 39 false hin'.out.symm _).mono ?_; rintro e w' ⟨rfl, rfl⟩)
      exact bodyPost_ret (v := .tuple #[.agg #[.int .i64 0, .bool false], .bool false]) (by simp [results, Tryd.results14, go_sem, d0, d1]) rfl ⟨ret_press_no hres.out, (B1.out.setCell (Nat.le_refl _) _).setCell (Nat.le_refl _) _⟩

set_option maxHeartbeats 1600000 in
theorem readPress_plain (s T : ByteArray) (hT : T.data.toList = behind s.data.toList) (hsz : T.size ≤ maxLen) (h0' : 0 < s.size) (hs : s.size ≤ 1048576) (h94 : ¬ (s[0]'h0').toNat = 94) (hTe : s = T) (w : World) :
    Calls Tryd.prog 14 #[.string s] w fun e w' => e = .returned (.tuple #[pressVal s.data.toList, .bool (pressOk s.data.toList)]) ∧ Below w.heap.size w w' := by
  subst hTe
  have hsh : Hid (shifted s.data.toList = false) := Lib.hid (by
    rw [list_of_first h0']
    exact shifted_other _ fun e => h94 (by rw [e]; rfl))
  have h94' : (((s[0]'h0').toNat : Int) == 94) = false := beq_eq_false_iff_ne.2 (by omega)
  have hp0 : decide ((0 : Int) < (s.size : Int)) = true := decide_eq_true (by omega)
  clear h94
  cases hok : numOk s.data.toList with
  | false =>
    have hres := Lib.hid (press_no (l := s.data.toList) (by rw [← hT]; exact hok))
    have hx : Hid (numAns s.data.toList = 0) := Lib.hid (by rw [numAns, hok]; rfl)
    replace hok := Lib.hid hok
    replace hT := Lib.hid hT
    go_enter Tryd.func14, Tryd.ntmps14
    go_wp2_with fail
    refine (number_is s 0 false hx.out hok.out hsz _).mono ?_
    rintro e w1 ⟨rfl, hb1⟩
    obtain ⟨d0, d1, e0, e1⟩ := twoBlocks hb1
    have B1 := Lib.hid (Below.trans (((Below.refl _ w).alloc (Nat.le_refl _) _).alloc (by simp) _) (hb1.mono (by simp; omega)))
    clear hb1
    go_wp2
    exact bodyPost_ret (v := .tuple #[.agg #[.int .i64 0, .bool false], .bool false]) (by simp [results, Tryd.results14, go_sem, d0, d1]) rfl ⟨ret_press_no hres.out, (B1.out.setCell (Nat.le_refl _) _).setCell (Nat.le_refl _) _⟩
  | true =>
    have hx := Lib.hid (numAns_yes hok)
    by_cases hin : (decide (0 ≤ numVal s.data.toList) && decide (numVal s.data.toList ≤ 39)) = true
    · have hres := Lib.hid (press_yes (l := s.data.toList) (by rw [← hT]; exact hok) (by rw [← hT]; exact hin))
      obtain ⟨k, hk⟩ : ∃ k : Int, numVal s.data.toList = k := ⟨_, rfl⟩
      have hkv : Hid (k = numVal (behind s.data.toList)) := Lib.hid (by rw [← hT, hk])
      rw [hk] at hin hx
      replace hok := Lib.hid hok
      replace hT := Lib.hid hT
      replace hin := Lib.hid hin
      clear hk
      go_enter Tryd.func14, Tryd.ntmps14
      go_wp2_with fail
      refine (number_is s k true hx.out hok.out hsz _).mono ?_
      rintro e w1 ⟨rfl, hb1⟩
      obtain ⟨d0, d1, e0, e1⟩ := twoBlocks hb1
      obtain ⟨d2, d3, e2, e3⟩ := lastBlock hb1
      have B1 := Lib.hid (Below.trans (((Below.refl _ w).alloc (Nat.le_refl _) _).alloc (by simp) _) (hb1.mono (by simp; omega)))
      clear hb1
      go_wp2_with (go_at_call 22; refine (in_any k 0 39 true hin.out.symm _).mono ?_; rintro e w' ⟨rfl, rfl⟩)
      exact bodyPost_ret (v := .tuple #[.agg #[.int .i64 k, .bool false], .bool true]) (by simp [results, Tryd.results14, go_sem, d0, d1, d2, d3]) rfl ⟨ret_press_yes hres.out hkv.out hsh.out.symm, ((B1.out.setCell (by simp) _).setCell (Nat.le_refl _) _).setCell (Nat.le_refl _) _⟩
    · have hin' : (decide (0 ≤ numVal s.data.toList) && decide (numVal s.data.toList ≤ 39)) = false := by simpa using hin
      have hres := Lib.hid (press_out (l := s.data.toList) (by rw [← hT]; exact hin'))
      obtain ⟨k, hk⟩ : ∃ k : Int, numVal s.data.toList = k := ⟨_, rfl⟩
      rw [hk] at hin' hx
      replace hok := Lib.hid hok
      replace hT := Lib.hid hT
      replace hin' := Lib.hid hin'
      clear hk hin
      go_enter Tryd.func14, Tryd.ntmps14
      go_wp2_with fail
      refine (number_is s k true hx.out hok.out hsz _).mono ?_
      rintro e w1 ⟨rfl, hb1⟩
      obtain ⟨d0, d1, e0, e1⟩ := twoBlocks hb1
      have B1 := Lib.hid (Below.trans (((Below.refl _ w).alloc (Nat.le_refl _) _).alloc (by simp) _) (hb1.mono (by simp; omega)))
      clear hb1
      go_wp2_with (go_at_call 22; refine (in_any k 0 39 false hin'.out.symm _).mono ?_; rintro e w' ⟨rfl, rfl⟩)
      exact bodyPost_ret (v := .tuple #[.agg #[.int .i64 0, .bool false], .bool false]) (by simp [results, Tryd.results14, go_sem, d0, d1]) rfl ⟨ret_press_no hres.out, (B1.out.setCell (Nat.le_refl _) _).setCell (Nat.le_refl _) _⟩

theorem readPress_spec (s : ByteArray) (hs : s.size ≤ 1048576) (w : World) :
    Calls Tryd.prog 14 #[.string s] w fun e w' => e = .returned (.tuple #[pressVal s.data.toList, .bool (pressOk s.data.toList)]) ∧ Below w.heap.size w w' := by
  by_cases h0 : s.size = 0
  · have he : s = ByteArray.empty := by
      apply ByteArray.ext
      exact Array.eq_empty_of_size_eq_zero h0
    subst he
    have hres : Hid (pressOk ByteArray.empty.data.toList = false) := Lib.hid (press_no (num_short (by decide)))
    go_enter Tryd.func14, Tryd.ntmps14
    go_wp2_with fail
    refine (number_is ByteArray.empty 0 false rfl rfl (by unfold maxLen; decide) _).mono ?_
    rintro e w1 ⟨rfl, hb1⟩
    obtain ⟨d0, d1, e0, e1⟩ := twoBlocks hb1
    have B1 := Lib.hid (Below.trans (((Below.refl _ w).alloc (Nat.le_refl _) _).alloc (by simp) _) (hb1.mono (by simp; omega)))
    clear hb1
    go_wp2
    exact bodyPost_ret (v := .tuple #[.agg #[.int .i64 0, .bool false], .bool false]) (by simp [results, Tryd.results14, go_sem, d0, d1]) rfl ⟨ret_press_no hres.out, (B1.out.setCell (Nat.le_refl _) _).setCell (Nat.le_refl _) _⟩
  · have h0' : 0 < s.size := by omega
    by_cases h94 : (s[0]'h0').toNat = 94
    · have hz : (s.extract 1 s.size).size = s.size - 1 := by simp
      refine readPress_caret s (s.extract 1 s.size) ?_ (by unfold maxLen; omega) h0' hs h94 rfl w
      rw [Lib.extract_to_end, list_of_first h0', show s[0] = 94 from UInt8.toNat.inj (by simpa using h94)]
      rfl
    · refine readPress_plain s s ?_ (by unfold maxLen; omega) h0' hs h94 rfl w
      rw [list_of_first h0', behind_other _ fun e => h94 (by rw [e]; rfl)]

theorem trim_caret (l : List UInt8) : Lib.trimPrefix l [94] = behind l := by
  cases l with
  | nil => rfl
  | cons c r =>
    by_cases h : c = 94
    · subst h
      rw [behind_caret]
      simp [Lib.trimPrefix, Lib.hasPrefix]
    · rw [behind_other r h]
      have h2 : ¬ 94 = c := fun e => h e.symm
      simp [Lib.trimPrefix, Lib.hasPrefix, h2]
theorem prefix_caret (l : List UInt8) : Lib.hasPrefix l [94] = shifted l := by
  cases l with
  | nil => rfl
  | cons c r =>
    by_cases h : c = 94
    · subst h
      rw [shifted_caret]
      simp [Lib.hasPrefix]
    · rw [shifted_other r h]
      have h2 : ¬ 94 = c := fun e => h e.symm
      simp [Lib.hasPrefix, List.isPrefixOf, h2]
theorem cut_is (s T : ByteArray) (b : Bool) (hT : (⟨(behind s.data.toList).toArray⟩ : ByteArray) = T) (hb : shifted s.data.toList = b) (w : World) :
    Calls Tryd.prog 24 #[.string s, .string ⟨#[94]⟩] w fun e w' => e = .returned (.tuple #[.string T, .bool b]) ∧ w = w' := by
  have h := Tryd.strings_CutPrefix s ⟨#[94]⟩ w
  rw [show (⟨#[94]⟩ : ByteArray).data.toList = [94] from rfl, trim_caret, prefix_caret, hT, hb] at h
  exact h.mono fun e w' ⟨he, hw⟩ => ⟨he, hw.symm⟩

theorem readDecimal_is (T : ByteArray) (x : Int) (b : Bool) (hx : numAns T.data.toList = x) (hb : numOk T.data.toList = b) (w : World) (hs : T.size ≤ 1048576) (htab : Lib.TabIs Tryd.prog w "internal/strconv.uint64pow10" .u64 Lib.pow10Tab) (hS : ErrHeld Tryd.prog w "strconv.ErrSyntax") (hR : ErrHeld Tryd.prog w "strconv.ErrRange") :
    Calls Tryd.prog 10 #[.string T] w fun e w' => e = .returned (.tuple #[.int .i64 x, .bool b]) ∧ Below w.heap.size w w' := hx ▸ hb ▸ readDecimal_impl T w hs htab hS hR
theorem pressText_is (k : Int) (b : Bool) (D : ByteArray) (hD : pressTxt ⟨k, b⟩ = D) (w : World) (htab : Lib.TabIs Tryd.prog w "internal/strconv.uint64pow10" .u64 Lib.pow10Tab) :
    Calls Tryd.prog 13 #[.agg #[.int .i64 k, .bool b]] w fun e w' => e = .returned (.string D) ∧ Below w.heap.size w w' := hD ▸ pressText_impl ⟨k, b⟩ w htab

theorem text_back {s : ByteArray} {k : Int} {b : Bool} (h0 : 0 ≤ k) (h1 : k ≤ 39) (hb : shifted s.data.toList = b) (hk : Lib.itoa k = behind s.data.toList) : pressTxt ⟨k, b⟩ = s := by
  have e : pressTxt ⟨k, b⟩ = if b then (⟨#[94]⟩ : ByteArray) ++ ⟨(Lib.itoa k).toArray⟩ else ⟨(Lib.itoa k).toArray⟩ := if_neg (by simp; omega)
  rw [e, hk]
  cases hl : s.data.toList with
  | nil =>
    rw [hl] at hb
    subst hb
    exact str_of_list (by rw [hl]; rfl)
  | cons c r =>
    rw [hl] at hb
    by_cases h : c = 94
    · subst h
      rw [shifted_caret] at hb
      subst hb
      rw [behind_caret, if_pos rfl, bytes_cons]
      exact str_of_list (by rw [hl])
    · rw [shifted_other r h] at hb
      subst hb
      rw [behind_other r h]
      exact str_of_list (by rw [hl])

set_option maxHeartbeats 1600000 in
theorem readPress_impl (s : ByteArray) (hs : s.size ≤ 1048576) (w : World) (htab : Lib.TabIs Tryd.prog w "internal/strconv.uint64pow10" .u64 Lib.pow10Tab) (hS : ErrHeld Tryd.prog w "strconv.ErrSyntax") (hR : ErrHeld Tryd.prog w "strconv.ErrRange") :
    Calls Tryd.prog 15 #[.string s] w fun e w' => e = .returned (.tuple #[pressVal s.data.toList, .bool (pressOk s.data.toList)]) ∧ Below w.heap.size w w' := by
  obtain ⟨T, hT⟩ : ∃ T : ByteArray, (⟨(behind s.data.toList).toArray⟩ : ByteArray) = T := ⟨_, rfl⟩
  have hTl : T.data.toList = behind s.data.toList := by rw [← hT]
  have hTs : T.size ≤ 1048576 := by
    have h1 : T.size = T.data.toList.length := rfl
    have h2 : (behind s.data.toList).length ≤ s.data.toList.length := by
      unfold behind
      split
      · rw [List.length_tail]; omega
      · exact Nat.le_refl _
    have h3 : s.data.toList.length = s.size := rfl
    rw [hTl] at h1
    omega
  obtain ⟨b, hb⟩ : ∃ b, shifted s.data.toList = b := ⟨_, rfl⟩
  have hB0 : Below w.heap.size w (w.alloc (.cells #[.int .i64 0, .bool false] 30)) := (Below.refl _ w).alloc (Nat.le_refl _) _
  have htab0 := Lib.hid (tabIs_below hB0 htab)
  have hS0 := Lib.hid (errHeld_below gSyn hB0 hS)
  have hR0 := Lib.hid (errHeld_below gRng hB0 hR)
  have c0 : (w.alloc (.cells #[.int .i64 0, .bool false] 30)).cell? ⟨w.heap.size, 0, none⟩ = some (.int .i64 0) := by go_simp
  have c1 : (w.alloc (.cells #[.int .i64 0, .bool false] 30)).cell? ⟨w.heap.size, 1, none⟩ = some (.bool false) := by go_simp
  have f0 : (w.alloc (.cells #[.int .i64 0, .bool false] 30)).frozen? ⟨w.heap.size, 0, none⟩ = false := by go_simp
  have f1 : (w.alloc (.cells #[.int .i64 0, .bool false] 30)).frozen? ⟨w.heap.size, 1, none⟩ = false := by go_simp
  have hz : w.heap.size < (w.alloc (.cells #[.int .i64 0, .bool false] 30)).heap.size := by simp
  replace c0 := Lib.hid c0
  replace c1 := Lib.hid c1
  replace f0 := Lib.hid f0
  replace f1 := Lib.hid f1
  replace hz := Lib.hid hz
  replace hB0 := Lib.hid hB0
  replace htab := Lib.hid htab
  replace hT := Lib.hid hT
  cases hok : numOk T.data.toList with
  | false =>
    have hres := Lib.hid (press_no (l := s.data.toList) (by rw [← hTl]; exact hok))
    have hx : Hid (numAns T.data.toList = 0) := Lib.hid (by rw [numAns, hok]; rfl)
    replace hok := Lib.hid hok
    replace hTl := Lib.hid hTl
    replace hb := Lib.hid hb
    clear hS hR
    go_enter Tryd.func15, Tryd.ntmps15
    go_wp2_with (first | (go_at_call 24; refine (cut_is s T b hT.out hb.out _).mono ?_; rintro e w' ⟨rfl, rfl⟩) | (go_at_call 10; refine (readDecimal_is T 0 false hx.out hok.out _ hTs htab0.out hS0.out hR0.out).mono ?_))
    rintro e w1 ⟨rfl, hb1⟩
    have d0 := (hb1.cell (p := ⟨w.heap.size, 0, none⟩) hz.out).trans c0.out
    have d1 := (hb1.cell (p := ⟨w.heap.size, 1, none⟩) hz.out).trans c1.out
    have e0 := (hb1.frozen (p := ⟨w.heap.size, 0, none⟩) hz.out).trans f0.out
    have e1 := (hb1.frozen (p := ⟨w.heap.size, 1, none⟩) hz.out).trans f1.out
    have hz1 : w.heap.size < w1.heap.size := Nat.lt_of_lt_of_le hz.out hb1.size
    have B1 := Lib.hid (hB0.out.trans (hb1.mono hB0.out.size))
    clear hb1
    go_wp2
    exact bodyPost_ret (v := .tuple #[.agg #[.int .i64 0, .bool false], .bool false]) (by simp [results, Tryd.results15, go_sem, d0, d1, hz1]) rfl ⟨ret_press_no hres.out, ((B1.out.setCell (Nat.le_refl _) _).setCell (Nat.le_refl _) _).alloc (by simpa using B1.out.size) _⟩
  | true =>
    have hx := Lib.hid (numAns_yes hok)
    have hnp := num_parse hok
    obtain ⟨k, hk⟩ : ∃ k : Int, numVal T.data.toList = k := ⟨_, rfl⟩
    have hkb : Hid (Lib.itoa k = behind s.data.toList) := Lib.hid (by rw [← hk, hnp.2, hTl])
    have hkv : Hid (k = numVal (behind s.data.toList)) := Lib.hid (by rw [← hTl, hk])
    rw [hk] at hx
    have hokb : Hid (numOk (behind s.data.toList) = true) := Lib.hid (by rw [← hTl]; exact hok)
    replace hok := Lib.hid hok
    clear hk hnp hS hR
    by_cases hin : (decide (0 ≤ k) && decide (k ≤ 39)) = true
    · have hres := Lib.hid (press_yes (l := s.data.toList) hokb.out (by rw [← hkv.out]; exact hin))
      have hin2 : 0 ≤ k ∧ k ≤ 39 := by simpa using hin
      have hD := Lib.hid (text_back hin2.1 hin2.2 hb hkb.out)
      replace hTl := Lib.hid hTl
      replace hb := Lib.hid hb
      clear hin hin2
      go_enter Tryd.func15, Tryd.ntmps15
      go_wp2_with (first | (go_at_call 24; refine (cut_is s T b hT.out hb.out _).mono ?_; rintro e w' ⟨rfl, rfl⟩) | (go_at_call 10; refine (readDecimal_is T k true hx.out hok.out _ hTs htab0.out hS0.out hR0.out).mono ?_))
      rintro e w1 ⟨rfl, hb1⟩
      have d0 := (hb1.cell (p := ⟨w.heap.size, 0, none⟩) hz.out).trans c0.out
      have d1 := (hb1.cell (p := ⟨w.heap.size, 1, none⟩) hz.out).trans c1.out
      have e0 := (hb1.frozen (p := ⟨w.heap.size, 0, none⟩) hz.out).trans f0.out
      have e1 := (hb1.frozen (p := ⟨w.heap.size, 1, none⟩) hz.out).trans f1.out
      have hz1 : w.heap.size < w1.heap.size := Nat.lt_of_lt_of_le hz.out hb1.size
      have B1 := Lib.hid (hB0.out.trans (hb1.mono hB0.out.size))
      clear hb1
      have htab1 := Lib.hid (tabIs_below (B1.out.alloc B1.out.size (.cells #[.int .i64 k, .bool b] 30)) htab.out)
      go_wp2_with (go_at_call 13; refine (pressText_is k b s hD.out _ htab1.out).mono ?_)
      rintro e w2 ⟨rfl, hb2⟩
      obtain ⟨hc, hf⟩ := bcell hb2
      have hz2 : w1.heap.size < w2.heap.size := by have := hb2.size; simp at this; omega
      have g0 : w2.cell? ⟨w.heap.size, 0, none⟩ = some (.int .i64 0) := by rw [hc _ _ (by simp; omega)]; go_simp
      have g1 : w2.cell? ⟨w.heap.size, 1, none⟩ = some (.bool false) := by rw [hc _ _ (by simp; omega)]; go_simp
      have g2 : w2.frozen? ⟨w.heap.size, 0, none⟩ = false := by rw [hf _ _ (by simp; omega)]; go_simp
      have g3 : w2.frozen? ⟨w.heap.size, 1, none⟩ = false := by rw [hf _ _ (by simp; omega)]; go_simp
      have g4 : w2.cell? ⟨w1.heap.size, 0, none⟩ = some (.int .i64 k) := by rw [hc _ _ (by simp)]; go_simp
      have g5 : w2.cell? ⟨w1.heap.size, 1, none⟩ = some (.bool b) := by rw [hc _ _ (by simp)]; go_simp
      have B2 := Lib.hid ((B1.out.alloc B1.out.size _).trans (hb2.mono (by have := B1.out.size; simp; omega)))
      clear hc hf hb2 d0 d1 e0 e1
      go_wp2
      exact bodyPost_ret (v := .tuple #[.agg #[.int .i64 k, .bool b], .bool true]) (by simp [results, Tryd.results15, go_sem, g0, g1]) rfl ⟨ret_press_yes hres.out hkv.out hb.out.symm, (B2.out.setCell (Nat.le_refl _) _).setCell (Nat.le_refl _) _⟩
    · have hin' : (decide (0 ≤ k) && decide (k ≤ 39)) = false := by simpa using hin
      have hres := Lib.hid (press_out (l := s.data.toList) (by rw [← hkv.out]; exact hin'))
      have hD : Hid (pressTxt ⟨k, b⟩ = ⟨#[]⟩) := Lib.hid (if_pos (by
        simp only [Bool.and_eq_false_iff, decide_eq_false_iff_not] at hin'
        show k < 0 ∨ 39 < k
        omega))
      have hne : ¬ s.data.toList = [] := fun e => by
        have h1 := hokb.out
        rw [e] at h1
        cases h1
      have hne1 : s.toList.isEmpty = false := by
        rw [ByteArray.toList_eq]
        cases hl : s.data.toList with
        | nil => exact absurd hl hne
        | cons _ _ => rfl
      have hne2 : ¬ s.toList = [] := by
        rw [ByteArray.toList_eq]
        exact hne
      clear hne
      replace hTl := Lib.hid hTl
      replace hb := Lib.hid hb
      clear hin hin'
      go_enter Tryd.func15, Tryd.ntmps15
      go_wp2_with (first | (go_at_call 24; refine (cut_is s T b hT.out hb.out _).mono ?_; rintro e w' ⟨rfl, rfl⟩) | (go_at_call 10; refine (readDecimal_is T k true hx.out hok.out _ hTs htab0.out hS0.out hR0.out).mono ?_))
      rintro e w1 ⟨rfl, hb1⟩
      have d0 := (hb1.cell (p := ⟨w.heap.size, 0, none⟩) hz.out).trans c0.out
      have d1 := (hb1.cell (p := ⟨w.heap.size, 1, none⟩) hz.out).trans c1.out
      have e0 := (hb1.frozen (p := ⟨w.heap.size, 0, none⟩) hz.out).trans f0.out
      have e1 := (hb1.frozen (p := ⟨w.heap.size, 1, none⟩) hz.out).trans f1.out
      have hz1 : w.heap.size < w1.heap.size := Nat.lt_of_lt_of_le hz.out hb1.size
      have B1 := Lib.hid (hB0.out.trans (hb1.mono hB0.out.size))
      clear hb1
      have htab1 := Lib.hid (tabIs_below (B1.out.alloc B1.out.size (.cells #[.int .i64 k, .bool b] 30)) htab.out)
      go_wp2_with (go_at_call 13; refine (pressText_is k b ⟨#[]⟩ hD.out _ htab1.out).mono ?_)
      rintro e w2 ⟨rfl, hb2⟩
      obtain ⟨hc, hf⟩ := bcell hb2
      have hz2 : w1.heap.size < w2.heap.size := by have := hb2.size; simp at this; omega
      have g0 : w2.cell? ⟨w.heap.size, 0, none⟩ = some (.int .i64 0) := by rw [hc _ _ (by simp; omega)]; go_simp
      have g1 : w2.cell? ⟨w.heap.size, 1, none⟩ = some (.bool false) := by rw [hc _ _ (by simp; omega)]; go_simp
      have g2 : w2.frozen? ⟨w.heap.size, 0, none⟩ = false := by rw [hf _ _ (by simp; omega)]; go_simp
      have g3 : w2.frozen? ⟨w.heap.size, 1, none⟩ = false := by rw [hf _ _ (by simp; omega)]; go_simp
      have B2 := Lib.hid ((B1.out.alloc B1.out.size _).trans (hb2.mono (by have := B1.out.size; simp; omega)))
      clear hc hf hb2 d0 d1 e0 e1
      go_wp2
      exact bodyPost_ret (v := .tuple #[.agg #[.int .i64 0, .bool false], .bool false]) (by simp [results, Tryd.results15, go_sem, g0, g1]) rfl ⟨ret_press_no hres.out, (B2.out.setCell (Nat.le_refl _) _).setCell (Nat.le_refl _) _⟩
end Go.Proofs.YtkdpileflddohaaDoor
