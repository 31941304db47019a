/- Colours: colourChanges and ColourRuns by the program. -/
import Derived.Test.YtceedmejmmoepaaKc2
import Derived.Test.YtceedmejmmoepaaJmp
namespace Go.Proofs.Ytceedmejmmoepaa
open Go.RowKit Go.ChangeShapes Go.WideShapes Go.Deep
set_option linter.unusedVariables false
set_option linter.unusedSimpArgs false

def strL : Value → Nat
  | .string t => t.size
  | _ => 0
def colOk (t : ByteArray) : Prop := t.data.toList.all colC = true
theorem colOk_in {t : ByteArray} (h : colOk t) : ∀ x ∈ t.data.toList, x = 98 ∨ x = 114 ∨ x.toNat = 32 := fun x hx => by
  have := List.all_eq_true.1 h x hx
  simp only [colC, Bool.or_eq_true, decide_eq_true_eq] at this
  rcases this with h | h | h
  · exact .inl (UInt8.toNat_inj.1 h)
  · exact .inr (.inl (UInt8.toNat_inj.1 h))
  · exact .inr (.inr h)
theorem ext_drop14 (t : ByteArray) (i : Nat) (hi : i ≤ t.size) : (t.extract i t.size).data.toList = t.data.toList.drop i := by
  rw [ByteArray.data_extract, Array.toList_extract, List.extract_eq_take_drop]
  have : t.data.toList.length = t.size := rfl
  rw [List.take_of_length_le (by rw [List.length_drop, this]; omega)]
theorem ext_size14 (t : ByteArray) (i : Nat) (hi : i ≤ t.size) : (t.extract i t.size).size = t.size - i := by
  rw [ByteArray.size_extract]; omega
/-- What one colour's label does with a text. -/
theorem cut14 (t : ByteArray) (hok : colOk t) (now other : UInt8) (h : (now = 98 ∧ other = 114) ∨ (now = 114 ∧ other = 98)) (hs : t.size ≤ 1000) :
    ((∀ W, Calls Try.prog 59 #[.string t, .string ⟨#[other]⟩] W fun e w' => e = .returned (.tuple #[.string t, .string ⟨#[]⟩, .bool false]) ∧ Below W.heap.size W w') ∧ runF now t.data.toList = 0) ∨
    (∃ t0 t1 : ByteArray, (∀ W, Calls Try.prog 59 #[.string t, .string ⟨#[other]⟩] W fun e w' => e = .returned (.tuple #[.string t0, .string t1, .bool true]) ∧ Below W.heap.size W w') ∧ colOk t1 ∧ t1.size < t.size ∧ runF now t.data.toList = 1 + runF other t1.data.toList) := by
  have hne : ¬ other = now := by rcases h with ⟨rfl, rfl⟩ | ⟨rfl, rfl⟩ <;> decide
  have ho : ¬ other.toNat = 32 := by rcases h with ⟨rfl, rfl⟩ | ⟨rfl, rfl⟩ <;> decide
  have hall : ∀ x ∈ t.data.toList, x = now ∨ x = other ∨ x.toNat = 32 := fun x hx => by
    have := colOk_in hok x hx
    rcases h with ⟨rfl, rfl⟩ | ⟨rfl, rfl⟩
    · exact this
    · rcases this with h | h | h
      · exact .inr (.inl h)
      · exact .inl h
      · exact .inr (.inr h)
  obtain ⟨r1, r2⟩ := runF_cut now other hne ho t.data.toList hall
  by_cases hi : Lib.indexByte t.data.toList other < 0
  · exact .inl ⟨fun W => scut_no14 t other hi W, r1 hi⟩
  · obtain ⟨i, hi2⟩ : ∃ i : Nat, Lib.indexByte t.data.toList other = (i : Int) := ⟨(Lib.indexByte t.data.toList other).toNat, by omega⟩
    obtain ⟨h3, h4⟩ := r2 i hi2
    have h5 : i < t.size := h4
    refine .inr ⟨t.extract 0 i, t.extract (i + 1) t.size, fun W => scut_yes14 t other i hi2 h5 (by omega) W, ?_, ?_, ?_⟩
    · show (t.extract (i + 1) t.size).data.toList.all colC = true
      rw [ext_drop14 t (i + 1) (by omega), List.all_eq_true]
      exact fun x hx => List.all_eq_true.1 hok x (List.mem_of_mem_drop hx)
    · rw [ext_size14 t (i + 1) (by omega)]; omega
    · rw [ext_drop14 t (i + 1) (by omega)]; exact h3
set_option maxRecDepth 100000 in
set_option maxHeartbeats 3200000 in
theorem chg14 (s : ByteArray) (hs : s.size ≤ 1000) (hok : colOk s) (w : World) :
    Calls Try.prog 50 #[.string s] w fun e w' => e = .returned (.int .i64 (runF 98 s.data.toList : Int)) ∧ Below w.heap.size w w' := by
  have hcut := Lib.hid (fun t h1 h2 => And.intro (cut14 t h1 98 114 (.inl ⟨rfl, rfl⟩) h2) (cut14 t h1 114 98 (.inr ⟨rfl, rfl⟩) h2))
  obtain ⟨F, hF⟩ : ∃ F, runF 98 s.data.toList = F := ⟨_, rfl⟩
  rw [hF]
  replace hF := Lib.hid hF
  replace hok := Lib.hid hok
  go_enter Try.func50, Try.ntmps50
  go_wp2_with fail
  refine wp_scope_labels (fun l a wr => ∃ (t : ByteArray) (n : Nat) (u4 u5 u6 u7 u8 u9 u10 u11 u12 u13 u14 u15 u16 u17 u18 u19 u20 u21 u22 u23 u24 : Value), colOk t ∧ t.size ≤ s.size ∧ n + t.size ≤ s.size ∧ Below w.heap.size w wr ∧
      ((l = 1 ∧ F = n + runF 98 t.data.toList) ∨ (l = 0 ∧ F = n + runF 114 t.data.toList)) ∧
      a = { tmps := #[.string t, undef, .int .i64 0, .int .i64 (n : Int), u4, u5, u6, u7, u8, u9, u10, u11, u12, u13, u14, u15, u16, u17, u18, u19, u20, u21, u22, u23, u24], defers := [] }) (fun a _ => strL (a.tmps.getD 0 undef)) ?first ?pass
  case first =>
    go_wp2_with fail
    go_step3
    have hok2 := hok
    have hrun : F = 0 + runF 98 s.data.toList := hF.out.symm.trans (Nat.zero_add _).symm
    have hbw : Below w.heap.size w w := Below.refl _ _
    have hts : s.size ≤ s.size := Nat.le_refl _
    rcases (hcut.out s hok2.out (by omega)).1 with ⟨hc, hr0⟩ | ⟨t0, t1, hc, hok3, hlt, hr1⟩
    · have hv : Hid (F = 0) := Lib.hid (by rw [hrun, hr0]; try rfl)
      replace hc := Lib.hid hc
      clear hrun hr0
      go_wp2_with fail
      refine (hc.out _).mono ?_
      rintro e w1 ⟨rfl, hb1⟩
      replace hb1 := Lib.hid (hbw.step hb1)
      go_wp2
      simp only [Exit.jumps, Exit.then]
      go_ret
      exact ⟨by rw [hv.out]; rfl, hb1.out⟩
    · have hv : Hid (F = (1 : Nat) + runF 114 t1.data.toList) := Lib.hid (by rw [hrun, hr1]; omega)
      replace hc := Lib.hid hc
      replace hok3 := Lib.hid hok3
      clear hrun hr1
      go_wp2_with fail
      refine (hc.out _).mono ?_
      rintro e w1 ⟨rfl, hb1⟩
      replace hb1 := Lib.hid (hbw.step hb1)
      go_wp2
      go_step3
      exact ⟨⟨_, rfl⟩, ⟨t1, 1, _, _, _, _, _, _, _, _, _, _, _, _, _, _, _, _, _, _, _, _, _, hok3.out, by omega, by omega, hb1.out, .inr ⟨rfl, hv.out⟩, by go_num⟩⟩
  case pass =>
    rintro l rest a0 wr hf ⟨t, n, u4, u5, u6, u7, u8, u9, u10, u11, u12, u13, u14, u15, u16, u17, u18, u19, u20, u21, u22, u23, u24, hok2, hts, hns, hbw, hrun, rfl⟩
    replace hok2 := Lib.hid hok2
    rcases hrun with ⟨rfl, hrun⟩ | ⟨rfl, hrun⟩
    · obtain rfl := Option.some.inj (hf.symm.trans rfl)
      rcases (hcut.out t hok2.out (by omega)).1 with ⟨hc, hr0⟩ | ⟨t0, t1, hc, hok3, hlt, hr1⟩
      · have hv : Hid (F = n) := Lib.hid (by rw [hrun, hr0]; try rfl)
        replace hc := Lib.hid hc
        clear hrun hr0
        go_wp2_with fail
        refine (hc.out _).mono ?_
        rintro e w1 ⟨rfl, hb1⟩
        replace hb1 := Lib.hid (hbw.step hb1)
        go_wp2
        simp only [Exit.jumps, Exit.then]
        go_ret
        exact ⟨by rw [hv.out]; rfl, hb1.out⟩
      · have hv : Hid (F = (n + 1 : Nat) + runF 114 t1.data.toList) := Lib.hid (by rw [hrun, hr1]; omega)
        have hwn : IntKind.i64.wrap ((n : Int) + 1) = ((n + 1 : Nat) : Int) := by rw [IntWalk.i64_in _ (by omega)]; omega
        replace hc := Lib.hid hc
        replace hok3 := Lib.hid hok3
        clear hrun hr1
        go_wp2_with fail
        refine (hc.out _).mono ?_
        rintro e w1 ⟨rfl, hb1⟩
        replace hb1 := Lib.hid (hbw.step hb1)
        go_wp2
        go_step3
        exact ⟨⟨_, rfl⟩, ⟨t1, n + 1, _, _, _, _, _, _, _, _, _, _, _, _, _, _, _, _, _, _, _, _, _, hok3.out, by omega, by omega, hb1.out, .inr ⟨rfl, hv.out⟩, by go_num⟩, by simp [strL]; omega⟩
    · obtain rfl := Option.some.inj (hf.symm.trans rfl)
      rcases (hcut.out t hok2.out (by omega)).2 with ⟨hc, hr0⟩ | ⟨t0, t1, hc, hok3, hlt, hr1⟩
      · have hv : Hid (F = n) := Lib.hid (by rw [hrun, hr0]; try rfl)
        replace hc := Lib.hid hc
        clear hrun hr0
        go_wp2_with fail
        refine (hc.out _).mono ?_
        rintro e w1 ⟨rfl, hb1⟩
        replace hb1 := Lib.hid (hbw.step hb1)
        go_wp2
        simp only [Exit.jumps, Exit.then]
        go_ret
        exact ⟨by rw [hv.out]; rfl, hb1.out⟩
      · have hv : Hid (F = (n + 1 : Nat) + runF 98 t1.data.toList) := Lib.hid (by rw [hrun, hr1]; omega)
        have hwn : IntKind.i64.wrap ((n : Int) + 1) = ((n + 1 : Nat) : Int) := by rw [IntWalk.i64_in _ (by omega)]; omega
        replace hc := Lib.hid hc
        replace hok3 := Lib.hid hok3
        clear hrun hr1
        go_wp2_with fail
        refine (hc.out _).mono ?_
        rintro e w1 ⟨rfl, hb1⟩
        replace hb1 := Lib.hid (hbw.step hb1)
        go_wp2
        go_step3
        exact ⟨⟨_, rfl⟩, ⟨t1, n + 1, _, _, _, _, _, _, _, _, _, _, _, _, _, _, _, _, _, _, _, _, _, hok3.out, by omega, by omega, hb1.out, .inl ⟨rfl, hv.out⟩, by go_num⟩, by simp [strL]; omega⟩
set_option maxHeartbeats 1600000 in
theorem cr14_impl (s : ByteArray) (w : World) (hs : s.size ≤ 1048576) :
    Calls Try.prog 30 #[.string s] w fun e w' => e = .returned (.tuple #[.int .i64 (crR s).1, .int .i64 (crR s).2]) ∧ Below w.heap.size w w' := by
  generalize hr : crR s = q
  replace hr := Lib.hid hr.symm
  cases h1 : s.data.toList.all colC with
  | false =>
    have hb : Hid (q = (0, 7)) := Lib.hid (by rw [hr.out, crR, h1]; rfl)
    have hc := Lib.hid (fun W => conF14 s h1 W)
    clear h1 hr
    go_enter Try.func30, Try.ntmps30
    go_wp2_with fail
    refine (hc.out _).mono ?_
    rintro e w1 ⟨rfl, hb1⟩
    go_wp2
    go_ret2
    exact ⟨ret8_2 hb.out, hb1⟩
  | true =>
    have hc := Lib.hid (fun W => conF14 s h1 W)
    by_cases h2 : s.size ≤ 1000
    · have hb : Hid (q = ((runF 98 s.data.toList : Int), 0)) := Lib.hid (by rw [hr.out, crR, if_pos h1, if_pos h2])
      have hg := Lib.hid (fun W => chg14 s h2 h1 W)
      have g1 : decide ((1000 : Int) < (s.size : Int)) = false := decide_eq_false (by omega)
      have g2 : decide (1000 < s.size) = false := decide_eq_false (by omega)
      generalize runF 98 s.data.toList = F at *
      clear h1 hr
      go_enter Try.func30, Try.ntmps30
      go_wp2_with fail
      refine (hc.out _).mono ?_
      rintro e w1 ⟨rfl, hb1⟩
      go_wp2_with fail
      refine (hg.out _).mono ?_
      rintro e w2 ⟨rfl, hb2⟩
      go_wp2
      go_ret2
      exact ⟨ret8_2 hb.out, hb1.step hb2⟩
    · have hb : Hid (q = (0, 2)) := Lib.hid (by rw [hr.out, crR, if_pos h1, if_neg h2])
      have g1 : decide ((1000 : Int) < (s.size : Int)) = true := decide_eq_true (by omega)
      have g2 : decide (1000 < s.size) = true := decide_eq_true (by omega)
      clear h1 hr
      go_enter Try.func30, Try.ntmps30
      go_wp2_with fail
      refine (hc.out _).mono ?_
      rintro e w1 ⟨rfl, hb1⟩
      go_wp2
      go_ret2
      exact ⟨ret8_2 hb.out, hb1⟩
end Go.Proofs.Ytceedmejmmoepaa
