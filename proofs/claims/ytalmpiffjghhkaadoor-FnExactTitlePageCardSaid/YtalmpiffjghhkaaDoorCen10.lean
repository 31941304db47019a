/- Centring: what the program says of a single text: settings, the rest that a width leaves, CentreText, RightText, BackSpaces, LeaderLine. -/
import Derived.Test.YtalmpiffjghhkaaDoorCen5
import Derived.Test.YtalmpiffjghhkaaDoorRep
namespace Go.Proofs.YtalmpiffjghhkaaDoor
open Go.RowKit Go.ChangeShapes Go.WideShapes Go.Deep
set_option linter.unusedVariables false
set_option linter.unusedSimpArgs false

theorem dropW_id {l : List UInt8} {c : UInt8} : l.dropWhile (· == c) = l ↔ l = [] ∨ l.head? ≠ some c := by
  cases l with
  | nil => simp
  | cons a t =>
    by_cases h : a = c
    · subst h
      simp only [List.dropWhile_cons, beq_self_eq_true, if_true, List.head?_cons, ne_eq, not_true, or_false, reduceCtorEq, iff_false]
      intro h2
      have h3 := (List.dropWhile_sublist (fun x => x == a) (l := t)).length_le
      rw [h2, List.length_cons] at h3
      omega
    · simp [h]
theorem dropW_len (l : List UInt8) (c : UInt8) : (l.dropWhile (· == c)).length ≤ l.length := (List.dropWhile_sublist _).length_le
theorem trimB_id {l : List UInt8} {c : UInt8} : Lib.trimB l c = l ↔ l = [] ∨ (l.head? ≠ some c ∧ l.getLast? ≠ some c) := by
  unfold Lib.trimB Lib.trimLeftB Lib.trimRightB
  have hr : (l.reverse.dropWhile (· == c)).reverse = l ↔ l = [] ∨ l.getLast? ≠ some c := by
    rw [List.reverse_eq_iff, dropW_id, List.reverse_eq_nil_iff, List.head?_reverse]
  constructor
  · intro h
    have h1 := dropW_len (l.reverse.dropWhile (· == c)).reverse c
    have h2 := dropW_len l.reverse c
    rw [h] at h1
    rw [List.length_reverse] at h1 h2
    have h3 : (l.reverse.dropWhile (· == c)) = l.reverse := (List.dropWhile_suffix _).eq_of_length (by rw [List.length_reverse]; omega)
    have h4 : (l.reverse.dropWhile (· == c)).reverse = l := by rw [h3, List.reverse_reverse]
    rw [h4] at h
    rcases dropW_id.1 h with h5 | h5
    · exact Or.inl h5
    · rcases hr.1 h4 with h6 | h6
      · exact Or.inl h6
      · exact Or.inr ⟨h5, h6⟩
  · rintro (h | ⟨h, k⟩)
    · subst h; rfl
    · rw [hr.2 (Or.inr k)]; exact dropW_id.2 (Or.inr h)
theorem trim_text (s : ByteArray) : ((⟨(Lib.trimB s.data.toList 32).toArray⟩ : ByteArray) = s) ↔ (s.size = 0 ∨ (¬ (bAt s 0).toNat = 32 ∧ ¬ (bAt s (s.size - 1)).toNat = 32)) := by
  have h0 : ((⟨(Lib.trimB s.data.toList 32).toArray⟩ : ByteArray) = s) ↔ Lib.trimB s.data.toList 32 = s.data.toList := by
    constructor
    · intro h
      have := congrArg (fun x : ByteArray => x.data.toList) h
      simpa using this
    · intro h; rw [h]
  have hz : s.size = s.data.toList.length := rfl
  have hb : ∀ b : UInt8, b.toNat = 32 ↔ b = 32 := fun b => ⟨fun h => UInt8.toNat_inj.1 h, fun h => by rw [h]; rfl⟩
  rw [h0, trimB_id, hb, hb, hz]
  unfold bAt
  generalize s.data.toList = l
  cases l with
  | nil => simp
  | cons a t =>
    simp only [List.length_cons, List.head?_cons, reduceCtorEq, false_or, ne_eq, Option.some.injEq, List.getD_cons_zero, Nat.add_sub_cancel, Nat.add_eq_zero_iff, Nat.one_ne_zero, and_false]
    rw [List.getLast?_eq_getElem?, List.length_cons, Nat.add_sub_cancel, List.getD_eq_getElem?_getD]
    obtain ⟨b, hb'⟩ : ∃ b, (a :: t)[t.length]? = some b := ⟨_, List.getElem?_eq_getElem (by simp)⟩
    rw [hb']
    simp
theorem trim_eq (s : ByteArray) : ((⟨(Lib.trimB s.data.toList 32).toArray⟩ : ByteArray).toList == s.toList) = (decide (s.size = 0) || (!decide ((bAt s 0).toNat = 32) && !decide ((bAt s (s.size - 1)).toNat = 32))) := by
  rw [Bool.eq_iff_iff, beq_iff_eq, Bool.or_eq_true, Bool.and_eq_true, decide_eq_true_eq, Bool.not_eq_true', Bool.not_eq_true', decide_eq_false_iff_not, decide_eq_false_iff_not, ← trim_text]
  constructor
  · intro h
    apply bytes_eq
    rwa [ByteArray.toList_eq, ByteArray.toList_eq] at h
  · intro h; rw [h]
theorem sett10 (s : ByteArray) {v : Bool} (hv : settB s = v) (w : World) (hs : s.size ≤ maxLen) :
    Calls Tryd.prog 39 #[.string s] w fun e w' => e = .returned (.bool v) ∧ Below w.heap.size w w' := by
  have hc := Lib.hid (fun W => bline10 s (v := lineB s) rfl W hs)
  have hs' := hs
  unfold maxLen at hs'
  cases h1 : lineB s with
  | false =>
    have hr : Hid (v = false) := Lib.hid (by rw [← hv, settB, h1]; rfl)
    rw [h1] at hc
    clear hv h1
    go_enter Tryd.func39, Tryd.ntmps39
    go_wp2_with fail
    refine (hc.out _).mono ?_
    rintro e w1 ⟨rfl, rfl⟩
    go_wp2
    go_ret
    exact ⟨ret_bo hr.out.symm, Below.refl _ _⟩
  | true =>
    have htr := Lib.hid (fun W => Tryd.strings_Trim_one s 32 (by decide) W (by omega))
    have heq : Hid (((⟨(Lib.trimB s.data.toList 32).toArray⟩ : ByteArray).toList == s.toList) = v) := Lib.hid (by rw [trim_eq, ← hv, settB, h1, Bool.true_and])
    rw [h1] at hc
    clear hv h1
    generalize (⟨(Lib.trimB s.data.toList 32).toArray⟩ : ByteArray) = T at *
    have heq2 := heq.out
    go_enter Tryd.func39, Tryd.ntmps39
    go_wp2_with fail
    refine (hc.out _).mono ?_
    rintro e w1 ⟨rfl, rfl⟩
    go_wp2_with fail
    refine (htr.out _).mono ?_
    rintro e w2 ⟨rfl, hw2⟩
    have hb2 : Below w.heap.size w w2 := by
      rcases hw2 with rfl | rfl
      · exact Below.refl _ _
      · exact (Below.refl _ _).drew
    clear hw2
    go_wp2
    go_ret
    exact ⟨rfl, hb2⟩
def rsA (s : ByteArray) (wd : Int) : Int := if ceC s wd = 0 then wd - (s.size : Int) else 0
set_option maxHeartbeats 1600000 in
theorem rest10 (s : ByteArray) (wd : Int) {q a : Int} (hq : ceC s wd = q) (ha : rsA s wd = a) (w : World) (hs : s.size ≤ 1048576) :
    Calls Tryd.prog 34 #[.string s, .int .i64 wd] w fun e w' => e = .returned (.tuple #[.int .i64 a, .int .i64 q]) ∧ Below w.heap.size w w' := by
  cases h1 : settB s with
  | false =>
    have hr : ceC s wd = 2 := by rw [ceC, h1]; rfl
    have hb : Hid ((a, q) = ((0, 2) : Int × Int)) := Lib.hid (by rw [← hq, ← ha, rsA, hr]; rfl)
    have hc := Lib.hid (fun W => sett10 s h1 W (by unfold maxLen; omega))
    clear h1 hq ha hr
    go_enter Tryd.func34, Tryd.ntmps34
    go_wp2_with fail
    refine (hc.out _).mono ?_
    rintro e w1 ⟨rfl, hb1⟩
    go_wp2
    go_ret2
    exact ⟨ret8_2 hb.out, hb1⟩
  | true =>
    have hc := Lib.hid (fun W => sett10 s h1 W (by unfold maxLen; omega))
    have hsz := settB_size h1
    cases h2 : inR wd 1 100 with
    | false =>
      have hr : ceC s wd = 2 := by rw [ceC, h1, h2]; rfl
      have hb : Hid ((a, q) = ((0, 2) : Int × Int)) := Lib.hid (by rw [← hq, ← ha, rsA, hr]; rfl)
      have hc2 := Lib.hid (fun W => width10 wd h2 W)
      clear h1 h2 hq ha hr
      go_enter Tryd.func34, Tryd.ntmps34
      go_wp2_with fail
      refine (hc.out _).mono ?_
      rintro e w1 ⟨rfl, hb1⟩
      go_wp2_with fail
      refine (hc2.out _).mono ?_
      rintro e w2 ⟨rfl, rfl⟩
      go_wp2
      go_ret2
      exact ⟨ret8_2 hb.out, hb1⟩
    | true =>
      have hc2 := Lib.hid (fun W => width10 wd h2 W)
      obtain ⟨d1, d2⟩ := inR_iff.1 h2
      obtain ⟨r, hr⟩ : ∃ r, wd - (s.size : Int) = r := ⟨_, rfl⟩
      have hmi := Lib.hid (fun W => miss10 s wd (q := r) (by rw [IntWalk.i64_in _ (by omega)]; exact hr) W)
      by_cases h3 : wd < (s.size : Int)
      · have hr5 : ceC s wd = 5 := by rw [ceC, h1, h2, if_pos rfl, if_pos rfl, if_pos h3]
        have hb : Hid ((a, q) = ((0, 5) : Int × Int)) := Lib.hid (by rw [← hq, ← ha, rsA, hr5]; rfl)
        have g1 : decide (r < 0) = true := decide_eq_true (by omega)
        clear h1 h2 hq ha hr5 hr h3
        go_enter Tryd.func34, Tryd.ntmps34
        go_wp2_with fail
        refine (hc.out _).mono ?_
        rintro e w1 ⟨rfl, hb1⟩
        go_wp2_with fail
        refine (hc2.out _).mono ?_
        rintro e w2 ⟨rfl, rfl⟩
        go_wp2_with fail
        refine (hmi.out _).mono ?_
        rintro e w2 ⟨rfl, rfl⟩
        go_wp2
        go_ret2
        exact ⟨ret8_2 hb.out, hb1⟩
      · have hr5 : ceC s wd = 0 := by rw [ceC, h1, h2, if_pos rfl, if_pos rfl, if_neg h3]
        have hb : Hid ((a, q) = ((r, 0) : Int × Int)) := Lib.hid (by rw [← hq, ← ha, rsA, hr5, if_pos rfl, hr])
        have g1 : decide (r < 0) = false := decide_eq_false (by omega)
        clear h1 h2 hq ha hr5 hr h3
        go_enter Tryd.func34, Tryd.ntmps34
        go_wp2_with fail
        refine (hc.out _).mono ?_
        rintro e w1 ⟨rfl, hb1⟩
        go_wp2_with fail
        refine (hc2.out _).mono ?_
        rintro e w2 ⟨rfl, rfl⟩
        go_wp2_with fail
        refine (hmi.out _).mono ?_
        rintro e w2 ⟨rfl, rfl⟩
        go_wp2
        go_ret2
        exact ⟨ret8_2 hb.out, hb1⟩
set_option maxRecDepth 100000 in
set_option maxHeartbeats 2400000 in
theorem centre10_impl (s : ByteArray) (wd : Int) (w : World) (hs : s.size ≤ 1048576) (hwf : (Lit.int .i64 wd).wf = true) :
    Calls Tryd.prog 12 #[.string s, .int .i64 wd] w fun e w' => e = .returned (.tuple #[.string (ceR s wd).1, .int .i64 (ceR s wd).2]) ∧ Below w.heap.size w w' := by
  clear hwf
  generalize hr : ceR s wd = r
  replace hr := Lib.hid hr.symm
  obtain ⟨q, hq⟩ : ∃ q, ceC s wd = q := ⟨_, rfl⟩
  by_cases h0 : q = 0
  · subst h0
    obtain ⟨h1, h2, h3, h4⟩ := ceC_ok hq
    have hsz := settB_size h1
    obtain ⟨W, rfl⟩ : ∃ W : Nat, wd = (W : Int) := ⟨wd.toNat, by omega⟩
    obtain ⟨d, hd⟩ : ∃ d, W - s.size = d := ⟨_, rfl⟩
    have hc := Lib.hid (fun W' => rest10 s (W : Int) hq (a := (d : Int)) (by rw [rsA, if_pos hq]; omega) W' hs)
    have hgood : Hid (r = (repB 32 (d / 2) ++ s, 0)) := Lib.hid (by rw [hr.out, ceR, if_pos hq, Int.toNat_natCast, hd])
    have hhf := Lib.hid (fun W' => half10 d (by omega) W')
    have he0 : d / 2 ≤ d := Nat.div_le_self _ _
    obtain ⟨e, he⟩ : ∃ e, d / 2 = e := ⟨_, rfl⟩
    rw [he] at hhf hgood he0
    have hbl := Lib.hid (fun W' => blanks10_impl e (by omega) W')
    have hbs := repB_size 32 e
    have hcat : ¬ 9223372036854775807 < (repB 32 e).size + s.size := by omega
    replace hd := Lib.hid hd
    replace he := Lib.hid he
    clear hq h1 h2 h3 h4 hbs
    generalize repB 32 e = BB at *
    go_enter Tryd.func12, Tryd.ntmps12
    go_wp2_with fail
    refine (hc.out _).mono ?_
    rintro e1 w1 ⟨rfl, hb1⟩
    go_wp2_with fail
    refine (hhf.out _).mono ?_
    rintro e1 w2 ⟨rfl, rfl⟩
    go_wp2_with fail
    refine (hbl.out _).mono ?_
    rintro e1 w2 ⟨rfl, hb2⟩
    go_wp2
    go_ret2
    exact ⟨ret_s10 hgood.out, hb1.step hb2⟩
  · have hbad : Hid (r = (ByteArray.empty, q)) := Lib.hid (by rw [hr.out, ceR, hq, if_neg h0])
    have hc := Lib.hid (fun W' => rest10 s wd hq (a := 0) (by rw [rsA, hq, if_neg h0]) W' hs)
    have g0 : (q == 0) = false := beq_eq_false_iff_ne.2 h0
    replace h0 := Lib.hid h0
    clear hq
    go_enter Tryd.func12, Tryd.ntmps12
    go_wp2_with fail
    refine (hc.out _).mono ?_
    rintro e w1 ⟨rfl, hb1⟩
    go_wp2
    go_ret2
    exact ⟨ret_s10 hbad.out, hb1⟩
set_option maxRecDepth 100000 in
set_option maxHeartbeats 2400000 in
theorem right10_impl (s : ByteArray) (wd : Int) (w : World) (hs : s.size ≤ 1048576) (hwf : (Lit.int .i64 wd).wf = true) :
    Calls Tryd.prog 14 #[.string s, .int .i64 wd] w fun e w' => e = .returned (.tuple #[.string (riR s wd).1, .int .i64 (riR s wd).2]) ∧ Below w.heap.size w w' := by
  clear hwf
  generalize hr : riR s wd = r
  replace hr := Lib.hid hr.symm
  obtain ⟨q, hq⟩ : ∃ q, ceC s wd = q := ⟨_, rfl⟩
  by_cases h0 : q = 0
  · subst h0
    obtain ⟨h1, h2, h3, h4⟩ := ceC_ok hq
    have hsz := settB_size h1
    obtain ⟨W, rfl⟩ : ∃ W : Nat, wd = (W : Int) := ⟨wd.toNat, by omega⟩
    obtain ⟨d, hd⟩ : ∃ d, W - s.size = d := ⟨_, rfl⟩
    have hc := Lib.hid (fun W' => rest10 s (W : Int) hq (a := (d : Int)) (by rw [rsA, if_pos hq]; omega) W' hs)
    have hgood : Hid (r = (repB 32 d ++ s, 0)) := Lib.hid (by rw [hr.out, riR, if_pos hq, Int.toNat_natCast, hd])
    have hbl := Lib.hid (fun W' => blanks10_impl d (by omega) W')
    have hbs := repB_size 32 d
    have hcat : ¬ 9223372036854775807 < (repB 32 d).size + s.size := by omega
    replace hd := Lib.hid hd
    clear hq h1 h2 h3 h4 hbs
    generalize repB 32 d = BB at *
    go_enter Tryd.func14, Tryd.ntmps14
    go_wp2_with fail
    refine (hc.out _).mono ?_
    rintro e1 w1 ⟨rfl, hb1⟩
    go_wp2_with fail
    refine (hbl.out _).mono ?_
    rintro e1 w2 ⟨rfl, hb2⟩
    go_wp2
    go_ret2
    exact ⟨ret_s10 hgood.out, hb1.step hb2⟩
  · have hbad : Hid (r = (ByteArray.empty, q)) := Lib.hid (by rw [hr.out, riR, hq, if_neg h0])
    have hc := Lib.hid (fun W' => rest10 s wd hq (a := 0) (by rw [rsA, hq, if_neg h0]) W' hs)
    have g0 : (q == 0) = false := beq_eq_false_iff_ne.2 h0
    replace h0 := Lib.hid h0
    clear hq
    go_enter Tryd.func14, Tryd.ntmps14
    go_wp2_with fail
    refine (hc.out _).mono ?_
    rintro e w1 ⟨rfl, hb1⟩
    go_wp2
    go_ret2
    exact ⟨ret_s10 hbad.out, hb1⟩
theorem back10_impl (s : ByteArray) (w : World) (hs : s.size ≤ 1048576) :
    Calls Tryd.prog 24 #[.string s] w fun e w' => e = .returned (.tuple #[.int .i64 (bsR s).1, .int .i64 (bsR s).2]) ∧ Below w.heap.size w w' := by
  generalize hr : bsR s = r
  replace hr := Lib.hid hr.symm
  cases h1 : settB s with
  | false =>
    have hb : Hid (r = (0, 2)) := Lib.hid (by rw [hr.out, bsR, h1]; rfl)
    have hc := Lib.hid (fun W => sett10 s h1 W (by unfold maxLen; omega))
    clear h1
    go_enter Tryd.func24, Tryd.ntmps24
    go_wp2_with fail
    refine (hc.out _).mono ?_
    rintro e w1 ⟨rfl, hb1⟩
    go_wp2
    go_ret2
    exact ⟨ret8_2 hb.out, hb1⟩
  | true =>
    have hsz := settB_size h1
    have hb : Hid (r = ((((s.size + 1) / 2 : Nat) : Int), 0)) := Lib.hid (by rw [hr.out, bsR, h1]; rfl)
    have hc := Lib.hid (fun W => sett10 s h1 W (by unfold maxLen; omega))
    have hw0 : IntKind.i64.wrap (s.size : Int) = (s.size : Int) := IntWalk.i64_in _ (by omega)
    have hw1 : IntKind.i64.wrap ((s.size : Int) + 1) = ((s.size + 1 : Nat) : Int) := by rw [IntWalk.i64_in _ (by omega)]; omega
    have hhf := Lib.hid (fun W' => half10 (s.size + 1) (by omega) W')
    obtain ⟨n1, hn1⟩ : ∃ n1, s.size + 1 = n1 := ⟨_, rfl⟩
    rw [hn1] at hw1 hb hhf
    replace hn1 := Lib.hid hn1
    generalize n1 / 2 = m at *
    clear h1
    go_enter Tryd.func24, Tryd.ntmps24
    go_wp2_with fail
    refine (hc.out _).mono ?_
    rintro e w1 ⟨rfl, hb1⟩
    go_wp2_with fail
    refine (hhf.out _).mono ?_
    rintro e w2 ⟨rfl, rfl⟩
    go_wp2
    go_ret2
    exact ⟨ret8_2 hb.out, hb1⟩
set_option maxRecDepth 100000 in
set_option maxHeartbeats 2400000 in
theorem leader10_impl (a b : ByteArray) (wd : Int) (w : World) (ha : a.size ≤ 1048576) (hb : b.size ≤ 1048576) (hwf : (Lit.int .i64 wd).wf = true) :
    Calls Tryd.prog 22 #[.string a, .string b, .int .i64 wd] w fun e w' => e = .returned (.tuple #[.string (ldR a b wd).1, .int .i64 (ldR a b wd).2]) ∧ Below w.heap.size w w' := by
  clear hwf
  generalize hr : ldR a b wd = r
  replace hr := Lib.hid hr.symm
  cases h1 : settB a with
  | false =>
    have hbad : Hid (r = (ByteArray.empty, 2)) := Lib.hid (by rw [hr.out, ldR, h1]; rfl)
    have hc := Lib.hid (fun W => sett10 a h1 W (by unfold maxLen; omega))
    clear h1
    go_enter Tryd.func22, Tryd.ntmps22
    go_wp2_with fail
    refine (hc.out _).mono ?_
    rintro e w1 ⟨rfl, hb1⟩
    go_wp2
    go_ret2
    exact ⟨ret_s10 hbad.out, hb1⟩
  | true =>
    have hc := Lib.hid (fun W => sett10 a h1 W (by unfold maxLen; omega))
    cases h2 : settB b with
    | false =>
      have hbad : Hid (r = (ByteArray.empty, 2)) := Lib.hid (by rw [hr.out, ldR, h1, h2]; rfl)
      have hc2 := Lib.hid (fun W => sett10 b h2 W (by unfold maxLen; omega))
      clear h1 h2
      go_enter Tryd.func22, Tryd.ntmps22
      go_wp2_with fail
      refine (hc.out _).mono ?_
      rintro e w1 ⟨rfl, hb1⟩
      go_wp2_with fail
      refine (hc2.out _).mono ?_
      rintro e w2 ⟨rfl, hb2⟩
      go_wp2
      go_ret2
      exact ⟨ret_s10 hbad.out, hb1.step hb2⟩
    | true =>
      have hc2 := Lib.hid (fun W => sett10 b h2 W (by unfold maxLen; omega))
      cases h3 : inR wd 1 100 with
      | false =>
        have hbad : Hid (r = (ByteArray.empty, 2)) := Lib.hid (by rw [hr.out, ldR, h1, h2, h3]; rfl)
        have hc3 := Lib.hid (fun W => width10 wd h3 W)
        clear h1 h2 h3
        go_enter Tryd.func22, Tryd.ntmps22
        go_wp2_with fail
        refine (hc.out _).mono ?_
        rintro e w1 ⟨rfl, hb1⟩
        go_wp2_with fail
        refine (hc2.out _).mono ?_
        rintro e w2 ⟨rfl, hb2⟩
        go_wp2_with fail
        refine (hc3.out _).mono ?_
        rintro e w3 ⟨rfl, rfl⟩
        go_wp2
        go_ret2
        exact ⟨ret_s10 hbad.out, hb1.step hb2⟩
      | true =>
        have hc3 := Lib.hid (fun W => width10 wd h3 W)
        obtain ⟨d1, d2⟩ := inR_iff.1 h3
        have hza := settB_size h1
        have hzb := settB_size h2
        obtain ⟨q, hq⟩ : ∃ q, wd - ((a.size : Int) + (b.size : Int)) - 2 = q := ⟨_, rfl⟩
        have hz2 : (a ++ ⟨#[32, 32]⟩ ++ b).size = a.size + 2 + b.size := by rw [ByteArray.size_append, ByteArray.size_append]; rfl
        have hmi := Lib.hid (fun W => miss10 (a ++ ⟨#[32, 32]⟩ ++ b) wd (q := q) (by rw [hz2, IntWalk.i64_in _ (by omega)]; omega) W)
        have hcat1 : ¬ 9223372036854775807 < a.size + (⟨#[32, 32]⟩ : ByteArray).size := by rw [show (⟨#[32, 32]⟩ : ByteArray).size = 2 from rfl]; omega
        have hcat2 : ¬ 9223372036854775807 < (a ++ ⟨#[32, 32]⟩).size + b.size := by rw [ByteArray.size_append, show (⟨#[32, 32]⟩ : ByteArray).size = 2 from rfl]; omega
        have hcat1' : ¬ 9223372036854775807 < a.size + 2 := by omega
        by_cases h5 : q < 2
        · have hbad : Hid (r = (ByteArray.empty, 5)) := Lib.hid (by rw [hr.out, ldR, h1, h2, h3, if_pos (show (true && (true && true)) = true from rfl), hq, if_pos h5])
          have g1 : decide (q < 2) = true := decide_eq_true h5
          replace h5 := Lib.hid h5
          replace hq := Lib.hid hq
          replace hz2 := Lib.hid hz2
          clear h1 h2 h3
          go_enter Tryd.func22, Tryd.ntmps22
          go_wp2_with fail
          refine (hc.out _).mono ?_
          rintro e w1 ⟨rfl, hb1⟩
          go_wp2_with fail
          refine (hc2.out _).mono ?_
          rintro e w2 ⟨rfl, hb2⟩
          go_wp2_with fail
          refine (hc3.out _).mono ?_
          rintro e w3 ⟨rfl, rfl⟩
          go_wp2_with fail
          refine (hmi.out _).mono ?_
          rintro e w3 ⟨rfl, rfl⟩
          go_wp2
          go_ret2
          exact ⟨ret_s10 hbad.out, hb1.step hb2⟩
        · obtain ⟨Q, rfl⟩ : ∃ Q : Nat, q = (Q : Int) := ⟨q.toNat, by omega⟩
          have hgood : Hid (r = (a ++ ⟨#[32]⟩ ++ repB 46 Q ++ ⟨#[32]⟩ ++ b, 0)) := Lib.hid (by rw [hr.out, ldR, h1, h2, h3, if_pos (show (true && (true && true)) = true from rfl), hq, if_neg h5, Int.toNat_natCast])
          have g1 : decide ((Q : Int) < 2) = false := decide_eq_false h5
          have g2 : decide (Q < 2) = false := decide_eq_false (by omega)
          have hwQ : IntKind.i64.wrap (Q : Int) = (Q : Int) := IntWalk.i64_in _ (by omega)
          have hrep := Lib.hid (fun W => rep10 46 Q (by omega) W)
          have hRs := repB_size 46 Q
          have hQ : Q ≤ 100 := by omega
          replace h5 := Lib.hid h5
          replace hq := Lib.hid hq
          replace hz2 := Lib.hid hz2
          generalize repB 46 Q = R at *
          have o1 : (⟨#[32]⟩ : ByteArray).size = 1 := rfl
          have hcat3 : ¬ 9223372036854775807 < a.size + (⟨#[32]⟩ : ByteArray).size := by rw [o1]; omega
          have hcat4 : ¬ 9223372036854775807 < (a ++ ⟨#[32]⟩).size + R.size := by rw [ByteArray.size_append, o1]; omega
          have hcat5 : ¬ 9223372036854775807 < (a ++ ⟨#[32]⟩ ++ R).size + (⟨#[32]⟩ : ByteArray).size := by rw [ByteArray.size_append, ByteArray.size_append, o1]; omega
          have hcat6 : ¬ 9223372036854775807 < (a ++ ⟨#[32]⟩ ++ R ++ ⟨#[32]⟩).size + b.size := by rw [ByteArray.size_append, ByteArray.size_append, ByteArray.size_append, o1]; omega
          replace o1 := Lib.hid o1
          clear h1 h2 h3
          go_enter Tryd.func22, Tryd.ntmps22
          go_wp2_with fail
          refine (hc.out _).mono ?_
          rintro e w1 ⟨rfl, hb1⟩
          go_wp2_with fail
          refine (hc2.out _).mono ?_
          rintro e w2 ⟨rfl, hb2⟩
          go_wp2_with fail
          refine (hc3.out _).mono ?_
          rintro e w3 ⟨rfl, rfl⟩
          go_wp2_with fail
          refine (hmi.out _).mono ?_
          rintro e w3 ⟨rfl, rfl⟩
          go_wp2_with fail
          refine (hrep.out _).mono ?_
          rintro e w4 ⟨rfl, hb4⟩
          go_wp2
          go_ret2
          exact ⟨ret_s10 hgood.out, (hb1.step hb2).step hb4⟩
end Go.Proofs.YtalmpiffjghhkaaDoor
