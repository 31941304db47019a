/- The text of a press: the program and the model answer the same for every press, where the table of powers of ten holds what its text lays. -/
import Derived.Test.YtkdpileflddohaaDoorPressD
import Derived.Test.YtkdpileflddohaaDoorDecLaw
import Derived.Lib.SmallJoins
import Derived.Test.YtkdpileflddohaaDoorRows0
namespace Go.Proofs.YtkdpileflddohaaDoor
open Go.RowKit Go.Lib Go.ChangeShapes Go.WideShapes Go.Joins
set_option linter.unusedVariables false
set_option linter.unusedSimpArgs false

/-- What PressText answers. -/
def pressTxt (p : PressD) : ByteArray :=
  if p.key < 0 ∨ 39 < p.key then ⟨#[]⟩ else if p.shift then (⟨#[94]⟩ : ByteArray) ++ ⟨(Lib.itoa p.key).toArray⟩ else ⟨(Lib.itoa p.key).toArray⟩

theorem in_any (v lo hi : Int) (b : Bool) (h : b = (decide (lo ≤ v) && decide (v ≤ hi))) (w : World) :
    Calls Tryd.prog 22 #[.int .i64 v, .int .i64 lo, .int .i64 hi] w fun e w' => e = .returned (.bool b) ∧ w = w' := by
  subst h
  by_cases h1 : lo ≤ v
  · have d1 : decide (lo ≤ v) = true := decide_eq_true h1
    rw [d1]
    go_enter Tryd.func22, Tryd.ntmps22
    go_wp2
    go_ret
    exact ⟨by simp, rfl⟩
  · have d1 : decide (lo ≤ v) = false := decide_eq_false h1
    rw [d1]
    go_enter Tryd.func22, Tryd.ntmps22
    go_wp2
    go_ret
    exact ⟨rfl, rfl⟩

theorem small_len (k : Int) (h0 : 0 ≤ k) (h1 : k ≤ 39) : (Lib.itoa k).length ≤ 2 := by
  obtain ⟨u, rfl⟩ : ∃ u : Nat, k = (u : Int) := ⟨k.toNat, by omega⟩
  rw [Lib.itoa_nonneg]
  by_cases h : u < 10
  · rw [Lib.decDigits_one h]; simp
  · rw [Lib.decDigits_two h (by omega)]; simp

theorem pressText2_spec (p : PressD) (w : World) (h0 : 0 ≤ p.key) (h1 : p.key ≤ 39) :
    Calls Tryd.prog 23 #[.agg #[.int .i64 p.key, .bool p.shift]] w fun e w' => e = .returned (.string (pressTxt p)) ∧ Below w.heap.size w w' := by
  obtain ⟨k, s⟩ := p
  have hl := small_len k h0 h1
  have hsz : ((⟨(Lib.itoa k).toArray⟩ : ByteArray).size : Int) ≤ 2 := by
    show (((Lib.itoa k).toArray.size : Nat) : Int) ≤ 2
    simp only [List.size_toArray]
    omega
  have ht : Hid (pressTxt ⟨k, s⟩ = if s then (⟨#[94]⟩ : ByteArray) ++ ⟨(Lib.itoa k).toArray⟩ else ⟨(Lib.itoa k).toArray⟩) := Lib.hid (if_neg (by simp at h0 h1 ⊢; omega))
  simp only at h0 h1
  cases s with
  | true =>
    go_enter Tryd.func23, Tryd.ntmps23
    go_wp2_with (go_at_call 17; refine (dec_any k (by omega) (by omega) _).mono ?_; rintro e w' ⟨rfl, hb⟩)
    go_ret
    exact ⟨ret_str (by rw [ht.out]; rfl), ((Below.refl _ w).alloc (Nat.le_refl _) _).trans (hb.mono (by simp))⟩
  | false =>
    go_enter Tryd.func23, Tryd.ntmps23
    go_wp2_with (go_at_call 17; refine (dec_any k (by omega) (by omega) _).mono ?_; rintro e w' ⟨rfl, hb⟩)
    go_ret
    exact ⟨ret_str (by rw [ht.out]; rfl), ((Below.refl _ w).alloc (Nat.le_refl _) _).trans (hb.mono (by simp))⟩

theorem pressText_spec (p : PressD) (w : World) :
    Calls Tryd.prog 11 #[.agg #[.int .i64 p.key, .bool p.shift]] w fun e w' => e = .returned (.string (pressTxt p)) ∧ Below w.heap.size w w' := by
  by_cases h : p.key < 0 ∨ 39 < p.key
  · have ht : Hid (pressTxt p = ⟨#[]⟩) := Lib.hid (if_pos h)
    have hb : (decide (0 ≤ p.key) && decide (p.key ≤ 39)) = false := by
      rcases h with h | h
      · have : decide (0 ≤ p.key) = false := decide_eq_false (by omega)
        simp [this]
      · have : decide (p.key ≤ 39) = false := decide_eq_false (by omega)
        simp [this]
    have H := Lib.hid hb
    clear hb h
    go_enter Tryd.func11, Tryd.ntmps11
    go_wp2_with (go_at_call 22; refine (in_any _ _ _ false H.out.symm _).mono ?_; rintro e w' ⟨rfl, rfl⟩)
    go_ret
    exact ⟨ret_str ht.out.symm, (Below.refl _ w).alloc (Nat.le_refl _) _⟩
  · have h0 : 0 ≤ p.key := by omega
    have h1 : p.key ≤ 39 := by omega
    have hb : (decide (0 ≤ p.key) && decide (p.key ≤ 39)) = true := by simp [h0, h1]
    have H := Lib.hid hb
    clear hb h
    go_enter Tryd.func11, Tryd.ntmps11
    go_wp2_with (first | (go_at_call 22; refine (in_any _ _ _ true H.out.symm _).mono ?_; rintro e w' ⟨rfl, rfl⟩) | (go_at_call 23; refine (pressText2_spec p _ h0 h1).mono ?_; rintro e w' ⟨rfl, hb⟩))
    go_ret
    exact ⟨rfl, ((Below.refl _ w).alloc (Nat.le_refl _) _).trans (hb.mono (by simp))⟩

theorem pressText_impl (p : PressD) (w : World) (htab : Lib.TabIs Tryd.prog w "internal/strconv.uint64pow10" .u64 Lib.pow10Tab) :
    Calls Tryd.prog 13 #[.agg #[.int .i64 p.key, .bool p.shift]] w fun e w' => e = .returned (.string (pressTxt p)) ∧ Below w.heap.size w w' := by
  obtain ⟨k, s⟩ := p
  have htab := Lib.hid htab
  by_cases h : k < 0 ∨ 39 < k
  · have ht : Hid (pressTxt ⟨k, s⟩ = ⟨#[]⟩) := Lib.hid (if_pos h)
    by_cases hn : k < 0
    · clear h
      go_enter Tryd.func13, Tryd.ntmps13
      go_wp2
      go_ret
      exact ⟨ret_str ht.out.symm, (Below.refl _ w).alloc (Nat.le_refl _) _⟩
    · have hg : 40 ≤ k := by omega
      have hg' : decide (40 ≤ k) = true := decide_eq_true hg
      clear h
      go_enter Tryd.func13, Tryd.ntmps13
      go_wp2
      go_ret
      exact ⟨ret_str ht.out.symm, (Below.refl _ w).alloc (Nat.le_refl _) _⟩
  · have h0 : 0 ≤ k := by omega
    have h1 : k ≤ 39 := by omega
    have hg' : decide (40 ≤ k) = false := decide_eq_false (by omega)
    have hl := small_len k h0 h1
    have hsz : ((⟨(Lib.itoa k).toArray⟩ : ByteArray).size : Int) ≤ 2 := by
      show (((Lib.itoa k).toArray.size : Nat) : Int) ≤ 2
      simp only [List.size_toArray]
      omega
    have ht : Hid (pressTxt ⟨k, s⟩ = if s then (⟨#[94]⟩ : ByteArray) ++ ⟨(Lib.itoa k).toArray⟩ else ⟨(Lib.itoa k).toArray⟩) := Lib.hid (if_neg (by simp; omega))
    clear h
    cases s with
    | true =>
      have htab1 := Lib.hid (tabIs_below ((Below.refl _ w).alloc (Nat.le_refl _) (.cells #[.int .i64 k, .bool true] 30)) htab.out)
      go_enter Tryd.func13, Tryd.ntmps13
      go_wp2_with (go_at_call 8; refine (decimal_impl k (by omega) (by omega) _ htab1.out).mono ?_; rintro e w' ⟨rfl, hb⟩)
      go_ret
      exact ⟨ret_str (by rw [ht.out]; rfl), ((Below.refl _ w).alloc (Nat.le_refl _) _).trans (hb.mono (by simp))⟩
    | false =>
      have htab1 := Lib.hid (tabIs_below ((Below.refl _ w).alloc (Nat.le_refl _) (.cells #[.int .i64 k, .bool false] 30)) htab.out)
      go_enter Tryd.func13, Tryd.ntmps13
      go_wp2_with (go_at_call 8; refine (decimal_impl k (by omega) (by omega) _ htab1.out).mono ?_; rintro e w' ⟨rfl, hb⟩)
      go_ret
      exact ⟨ret_str (by rw [ht.out]; rfl), ((Below.refl _ w).alloc (Nat.le_refl _) _).trans (hb.mono (by simp))⟩

theorem fnExactPressText_any (p : PressD) (w : World) (hw : (Lit.int .i64 p.key).wf = true) (htab : Lib.TabIs Tryd.prog w "internal/strconv.uint64pow10" .u64 Lib.pow10Tab) :
    Calls Tryd.prog 5 #[.agg #[.int .i64 p.key, .bool p.shift]] w fun e w' => e = .returned (.bool true) ∧ Below w.heap.size w w' := by
  have hb0 : Below w.heap.size w (w.alloc (.cells #[.int .i64 p.key, .bool p.shift] 28)) := (Below.refl _ w).alloc (Nat.le_refl _) _
  have htab := Lib.hid htab
  have B0 := Lib.hid hb0
  have hz : w.heap.size + 1 = (w.alloc (.cells #[.int .i64 p.key, .bool p.shift] 28)).heap.size := by simp
  have Z := Lib.hid hz
  have c0 : (w.alloc (.cells #[.int .i64 p.key, .bool p.shift] 28)).cell? ⟨w.heap.size, 0, none⟩ = some (.int .i64 p.key) := by go_simp
  have c1 : (w.alloc (.cells #[.int .i64 p.key, .bool p.shift] 28)).cell? ⟨w.heap.size, 1, none⟩ = some (.bool p.shift) := by go_simp
  have C0 := Lib.hid c0
  have C1 := Lib.hid c1
  clear hb0 hz c0 c1
  go_enter Tryd.func5, Tryd.ntmps5
  go_wp2_with (go_at_call 12; refine (toPress_any _ _ _).mono ?_)
  rintro e w1 ⟨rfl, hb1⟩
  go_wp2_with (go_at_call 11; refine (pressText_spec p _).mono ?_)
  rintro e w2 ⟨rfl, hb2⟩
  have B2 := Lib.hid (hb1.step hb2)
  clear hb1 hb2
  have d0 := (B2.out.cell (p := ⟨w.heap.size, 0, none⟩) (by show w.heap.size < _; have := Z.out; omega)).trans C0.out
  have d1 := (B2.out.cell (p := ⟨w.heap.size, 1, none⟩) (by show w.heap.size < _; have := Z.out; omega)).trans C1.out
  go_wp2_with (go_at_call 12; refine (toPress_any _ _ _).mono ?_)
  rintro e w3 ⟨rfl, hb3⟩
  have B3 := Lib.hid (B0.out.trans ((B2.out.step hb3).mono B0.out.size))
  clear hb3 d0 d1
  have htab3 := Lib.hid (tabIs_below B3.out htab.out)
  go_wp2_with (go_at_call 13; refine (pressText_impl p _ htab3.out).mono ?_)
  rintro e w4 ⟨rfl, hb4⟩
  have B4 := Lib.hid (B3.out.trans (hb4.mono B3.out.size))
  clear hb4
  go_wp2
  go_ret
  exact ⟨rfl, B4.out⟩

theorem open_press {H : Type} {enc : TypeId × Value → H} {w : World} {base : Nat} {spare : Nat → Bool} {held : Bool} {r : Reach} {b0 : Nat} {v : Value} {d : DataW H} {p : List MemPlace}
    (hv : Value.okWide Tryd.prog w r b0 28 v) (h : DataW.Trod enc Tryd.prog w base spare held 28 v d p) :
    ∃ x : PressD, v = .agg #[.int .i64 x.key, .bool x.shift] ∧ (Lit.int .i64 x.key).wf = true := by
  obtain ⟨c0, c1, y0, y1, m, rfl, _, _, t0, t1⟩ := open_agg2 Tryd.underlying28 (by kernel_rfl) (by kernel_rfl) hv h
  obtain ⟨n0, e0, _, w0⟩ := DataW.trod_int Tryd.underlying2 t0
  obtain ⟨n1, e1, _⟩ := DataW.trod_bool Tryd.underlying4 t1
  simp at e0 e1
  subst e0 e1
  exact ⟨⟨n0, n1⟩, rfl, w0⟩
end Go.Proofs.YtkdpileflddohaaDoor
