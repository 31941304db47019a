/- A number read from a text: the program's own reading (by strconv.ParseInt) answers as numOk, numVal of XNum0 say. -/
import Derived.Test.YtkdpileflddohaaDoorNum
import Derived.Lib.SmallJoins
import Derived.Stop.LaidErr
import Derived.Test.YtkdpileflddohaaDoorRows0
namespace Go.Proofs.YtkdpileflddohaaDoor
open Go.RowKit Go.Joins
set_option linter.unusedVariables false
set_option linter.unusedSimpArgs false

/-- The variable holds an error that is not nil. -/
def ErrHeld (P : Program) (W : World) (n : String) : Prop := ∃ tp p, W.var? P n = some #[.iface tp p]
theorem star : "*" ++ "errors.errorString" = "*errors.errorString" := by decide
theorem errRow (u : TypeId) (h : Tryd.prog.typeName? 3 u = some "*errors.errorString") : u = 77 :=
  typeName_ptr_named (nm := "errors.errorString") (by rw [star]; kernel_rfl) (by kernel_rfl) (by decide) u (by rw [star]; exact h)
theorem errHeld_of_laid {n : String} {text : List UInt8} {W : World} {g : Nat} (hg : Tryd.prog.globalNamed n = some g) (hgt : (Tryd.prog.globals[g]?).map (·.type) = some 39)
    (h : laidMet Tryd.prog [(n, .iface "*errors.errorString" (.ptr (.agg [.lit (.string text)])))] W) : ErrHeld Tryd.prog W n := by
  obtain ⟨a, s, hv, _⟩ := laid_sentinel h hg hgt Tryd.underlying39 errRow Tryd.underlying77 Tryd.underlying79 rfl rfl Tryd.underlying9 (by kernel_rfl) (by kernel_rfl)
  exact ⟨_, _, hv⟩
theorem gSyn : Tryd.prog.globalNamed "strconv.ErrSyntax" = some 1 := by kernel_rfl
theorem gRng : Tryd.prog.globalNamed "strconv.ErrRange" = some 2 := by kernel_rfl
theorem errHeld_below {W W' : World} {n : String} {g : Nat} (hg : Tryd.prog.globalNamed n = some g) (hb : Below W.heap.size W W') (h : ErrHeld Tryd.prog W n) : ErrHeld Tryd.prog W' n := by
  obtain ⟨tp, p, hv⟩ := h
  exact ⟨tp, p, var?_below hb hg (var_lt hg hv) hv⟩

theorem trim_minus (l : List UInt8) : Lib.trimPrefix l [45] = unsigned l := by
  cases l with
  | nil => rfl
  | cons c r =>
    by_cases h : c = 45
    · subst h
      rw [unsigned_minus]
      simp [Lib.trimPrefix, Lib.hasPrefix]
    · rw [unsigned_other r h]
      have h2 : ¬ 45 = c := fun e => h e.symm
      simp [Lib.trimPrefix, Lib.hasPrefix, h2]

theorem trim_is (s T : ByteArray) (hT : (⟨(unsigned s.data.toList).toArray⟩ : ByteArray) = T) (w : World) :
    Calls Tryd.prog 20 #[.string s, .string ⟨#[45]⟩] w fun e w' => e = .returned (.string T) ∧ w = w' := by
  have h := Tryd.strings_TrimPrefix s ⟨#[45]⟩ w
  rw [show (⟨#[45]⟩ : ByteArray).data.toList = [45] from rfl, trim_minus, hT] at h
  exact h.mono fun e w' ⟨he, hw⟩ => ⟨he, hw.symm⟩

theorem parse_yes (s : ByteArray) (v : Int) (hs : s.size ≤ 1048576) (h : Lib.parseIntB 64 s.data.toList = .ok v) (w : World) :
    Calls Tryd.prog 21 #[.string s, .int .i64 10, .int .i64 64] w fun e w' => e = .returned (.tuple #[.int .i64 v, .nilIface]) ∧ Below w.heap.size w w' := by
  refine (Any.strconv_ParseInt_10_at64_ok Tryd.laysC174 s (by omega) v h w).mono fun e w' ⟨he, hw⟩ => ⟨he, ?_⟩
  rcases hw with rfl | ⟨t, rfl⟩
  · exact Below.refl _ _
  · exact below_bytesWorld _ _ _ _ (Nat.le_refl _)
theorem parse_no (s : ByteArray) (hs : s.size ≤ 1048576) (h : ∀ v, Lib.parseIntB 64 s.data.toList ≠ .ok v) (w : World) (hS : ErrHeld Tryd.prog w "strconv.ErrSyntax") (hR : ErrHeld Tryd.prog w "strconv.ErrRange") :
    ∃ x : Int, Calls Tryd.prog 21 #[.string s, .int .i64 10, .int .i64 64] w fun e w' => ∃ N, e = .returned (.tuple #[.int .i64 x, .iface 60 (.pointer (some ⟨N, 0, none⟩))]) ∧ Below w.heap.size w w' := by
  obtain ⟨tp, p, hv⟩ := hS
  obtain ⟨tp', p', hv'⟩ := hR
  cases hp : Lib.parseIntB 64 s.data.toList with
  | ok v => exact absurd hp (h v)
  | range => exact ⟨_, (Any.strconv_ParseInt_10_at64_range_var Tryd.laysC174 s (by omega) hp tp' p' w hv').mono fun e w' ⟨N, he, _, _, hb⟩ => ⟨N, he, hb⟩⟩
  | _ => exact ⟨_, (Any.strconv_ParseInt_10_at64_syntax_var Tryd.laysC174 s (by omega) hp tp p w hv).mono fun e w' ⟨N, he, _, _, hb⟩ => ⟨N, he, hb⟩⟩

theorem decimal_is (n : Int) (D : ByteArray) (hD : (⟨(Lib.itoa n).toArray⟩ : ByteArray) = D) (h0 : -9223372036854775808 ≤ n) (h1 : n ≤ 9223372036854775807) (w : World) (htab : Lib.TabIs Tryd.prog w "internal/strconv.uint64pow10" .u64 Lib.pow10Tab) :
    Calls Tryd.prog 8 #[.int .i64 n] w fun e w' => e = .returned (.string D) ∧ Below w.heap.size w w' := hD ▸ decimal_impl n h0 h1 w htab

theorem parse_bounds {l : List UInt8} {v : Int} (h : Lib.parseIntB 64 l = .ok v) : -9223372036854775808 ≤ v ∧ v ≤ 9223372036854775807 := by
  cases l with
  | nil => cases h
  | cons c r =>
    unfold Lib.parseIntB at h
    simp only at h
    split at h
    · cases h
    · cases h
    · rename_i u _
      split at h
      · cases h
      · split at h
        · cases h
        · rename_i h1 h2
          cases h
          split <;> omega

set_option maxHeartbeats 1600000 in
theorem readDecimal_impl (s : ByteArray) (w : World) (hs : s.size ≤ 1048576) (htab : Lib.TabIs Tryd.prog w "internal/strconv.uint64pow10" .u64 Lib.pow10Tab) (hS : ErrHeld Tryd.prog w "strconv.ErrSyntax") (hR : ErrHeld Tryd.prog w "strconv.ErrRange") :
    Calls Tryd.prog 10 #[.string s] w fun e w' => e = .returned (.tuple #[.int .i64 (numAns s.data.toList), .bool (numOk s.data.toList)]) ∧ Below w.heap.size w w' := by
  obtain ⟨T, hT⟩ : ∃ T : ByteArray, (⟨(unsigned s.data.toList).toArray⟩ : ByteArray) = T := ⟨_, rfl⟩
  have hlen : Hid (T.size = (unsigned s.data.toList).length) := Lib.hid (by rw [← hT]; show (unsigned s.data.toList).toArray.size = _; simp)
  have hTs : T.size ≤ 1048576 := by
    have h1 := hlen.out
    have h2 : (unsigned s.data.toList).length ≤ s.data.toList.length := by
      unfold unsigned
      split
      · rw [List.length_tail]; omega
      · exact Nat.le_refl _
    have h3 : s.data.toList.length = s.size := rfl
    omega
  replace hT := Lib.hid hT
  replace htab := Lib.hid htab
  by_cases h18 : 18 < T.size
  · have hres := Lib.hid (num_long (l := s.data.toList) (by rw [← hlen.out]; exact h18))
    go_enter Tryd.func10, Tryd.ntmps10
    go_wp2_with (go_at_call 20; refine (trim_is s T hT.out _).mono ?_; rintro e w' ⟨rfl, rfl⟩)
    go_ret2
    exact ⟨ret_num hres.out, Below.refl _ _⟩
  · by_cases hp : ∃ v, Lib.parseIntB 64 s.data.toList = .ok v
    · obtain ⟨v, hp⟩ := hp
      obtain ⟨b0, b1⟩ := parse_bounds hp
      replace b0 := Lib.hid b0
      replace b1 := Lib.hid b1
      by_cases hcmp : Lib.itoa v = s.data.toList
      · have hok := Lib.hid (parse_num (by rw [← hlen.out]; omega) hp hcmp)
        have hD := Lib.hid (str_of_list hcmp)
        replace hp := Lib.hid hp
        clear hcmp
        go_enter Tryd.func10, Tryd.ntmps10
        go_wp2_with (first | (go_at_call 20; refine (trim_is s T hT.out _).mono ?_; rintro e w' ⟨rfl, rfl⟩) | (go_at_call 21; refine (parse_yes s v hs hp.out _).mono ?_))
        rintro e w1 ⟨rfl, hb1⟩
        have htab1 := Lib.hid (tabIs_below hb1 htab.out)
        replace hb1 := Lib.hid hb1
        go_wp2_with (go_at_call 8; refine (decimal_is v s hD.out b0.out b1.out _ htab1.out).mono ?_)
        rintro e w2 ⟨rfl, hb2⟩
        go_wp2
        go_ret2
        exact ⟨ret_num_ok hok.out.1 hok.out.2.symm, hb1.out.step hb2⟩
      · obtain ⟨D, hD⟩ : ∃ D : ByteArray, (⟨(Lib.itoa v).toArray⟩ : ByteArray) = D := ⟨_, rfl⟩
        have hne : (D.toList == s.toList) = false := str_ne hD hcmp
        have hok : Hid (numOk s.data.toList = false) := Lib.hid (by
          rw [Bool.eq_false_iff]
          intro h
          obtain ⟨h1, h2⟩ := num_parse h
          rw [hp] at h1
          cases h1
          exact hcmp h2)
        replace hp := Lib.hid hp
        replace hD := Lib.hid hD
        clear hcmp
        go_enter Tryd.func10, Tryd.ntmps10
        go_wp2_with (first | (go_at_call 20; refine (trim_is s T hT.out _).mono ?_; rintro e w' ⟨rfl, rfl⟩) | (go_at_call 21; refine (parse_yes s v hs hp.out _).mono ?_))
        rintro e w1 ⟨rfl, hb1⟩
        have htab1 := Lib.hid (tabIs_below hb1 htab.out)
        replace hb1 := Lib.hid hb1
        go_wp2_with (go_at_call 8; refine (decimal_is v D hD.out b0.out b1.out _ htab1.out).mono ?_)
        rintro e w2 ⟨rfl, hb2⟩
        go_wp2
        go_ret2
        exact ⟨ret_num hok.out, hb1.out.step hb2⟩
    · have hok : Hid (numOk s.data.toList = false) := Lib.hid (by
        rw [Bool.eq_false_iff]
        intro h
        exact hp ⟨_, (num_parse h).1⟩)
      obtain ⟨x, hcall⟩ := parse_no s hs (fun v hv => hp ⟨v, hv⟩) w hS hR
      replace hcall := Lib.hid hcall
      clear hp
      go_enter Tryd.func10, Tryd.ntmps10
      go_wp2_with (first | (go_at_call 20; refine (trim_is s T hT.out _).mono ?_; rintro e w' ⟨rfl, rfl⟩) | (go_at_call 21; refine (hcall.out).mono ?_))
      rintro e w1 ⟨N, rfl, hb1⟩
      go_wp2
      go_ret2
      exact ⟨ret_num hok.out, hb1⟩

theorem readDecimal_spec (s : ByteArray) (w : World) (hs : s.size ≤ maxLen) :
    Calls Tryd.prog 9 #[.string s] w fun e w' => e = .returned (.tuple #[.int .i64 (numAns s.data.toList), .bool (numOk s.data.toList)]) ∧ Below w.heap.size w w' := by
  go_enter Tryd.func9, Tryd.ntmps9
  go_wp2_with (go_at_call 19; refine (number_spec s _ hs).mono ?_; rintro e w' ⟨rfl, hb⟩)
  go_ret2
  exact ⟨rfl, hb⟩

set_option maxHeartbeats 800000 in
theorem fnExactReadDecimal_any (s : ByteArray) (w : World) (hs : s.size ≤ maxLen) (htab : Lib.TabIs Tryd.prog w "internal/strconv.uint64pow10" .u64 Lib.pow10Tab) (hS : ErrHeld Tryd.prog w "strconv.ErrSyntax") (hR : ErrHeld Tryd.prog w "strconv.ErrRange") :
    Calls Tryd.prog 4 #[.string s] w fun e w' => e = .returned (.bool true) ∧ Below w.heap.size w w' := by
  have hs' := hs
  unfold maxLen at hs'
  by_cases hb : 1048576 < s.size
  · go_enter Tryd.func4, Tryd.ntmps4
    go_wp2
    go_ret
    exact ⟨rfl, Below.refl _ _⟩
  · replace htab := Lib.hid htab
    go_enter Tryd.func4, Tryd.ntmps4
    go_wp2_with (go_at_call 9; refine (readDecimal_spec s _ hs).mono ?_)
    rintro e w1 ⟨rfl, hb1⟩
    have htab1 := Lib.hid (tabIs_below hb1 htab.out)
    have hS1 := errHeld_below gSyn hb1 hS
    have hR1 := errHeld_below gRng hb1 hR
    replace hb1 := Lib.hid hb1
    go_wp2_with (go_at_call 10; refine (readDecimal_impl s _ (by omega) htab1.out hS1 hR1).mono ?_)
    rintro e w2 ⟨rfl, hb2⟩
    replace hb2 := Lib.hid hb2
    go_wp2
    go_ret
    exact ⟨rfl, hb1.out.step hb2.out⟩
end Go.Proofs.YtkdpileflddohaaDoor
