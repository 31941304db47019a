/- Several texts, one behind the other. -/
import Derived.Test.YtomnnhmhmehdjaaShelf
import Derived.Test.YtomnnhmhmehdjaaCrM
/- Corrections: how many letters a plan erases, by the program. -/
namespace Go.Proofs.Ytomnnhmhmehdjaa
open Go.RowKit Go.ChangeShapes Go.WideShapes Go.Deep
set_option linter.unusedVariables false
set_option linter.unusedSimpArgs false

theorem nocor12 (p : ByteArray) {v : Bool} (hv : planB p = v) (w : World) (hp : p.size ≤ maxLen) :
    Calls Try.prog 67 #[.string p] w fun e w' => e = .returned (.bool (!v)) ∧ Below w.heap.size w w' := by
  have hc := Lib.hid (fun W => deeds12 p hv W hp)
  clear hv
  go_enter Try.func67, Try.ntmps67
  go_wp2_with fail
  refine (hc.out _).mono ?_
  rintro e w1 ⟨x, rfl, hb1, _⟩
  go_wp2
  go_ret
  exact ⟨rfl, hb1⟩
theorem count12 : ∀ l : List UInt8, Lib.countByte l 35 = (erL l : Int)
  | [] => rfl
  | c :: r => by
    have ih := count12 r
    have e : erL (c :: r) = erL r + if c.toNat = 35 then 1 else 0 := by
      unfold erL
      rw [List.filter_cons]
      by_cases h : c.toNat = 35
      · rw [if_pos (by simpa using h), if_pos h]; rfl
      · rw [if_neg (by simpa using h), if_neg h]; rfl
    unfold Lib.countByte at ih ⊢
    rw [List.count_cons, e]
    by_cases h : c.toNat = 35
    · have h' : c = 35 := UInt8.toNat_inj.1 h
      rw [if_pos h, if_pos (by simp [h'])]
      omega
    · have h' : ¬ c = 35 := fun hh => h (by rw [hh]; rfl)
      rw [if_neg h, if_neg (by simpa using h')]
      omega
theorem ei12_impl (s : ByteArray) (w : World) (hs : s.size ≤ 1048576) :
    Calls Try.prog 25 #[.string s] w fun e w' => e = .returned (.tuple #[.int .i64 (eiR s).1, .int .i64 (eiR s).2]) ∧ Below w.heap.size w w' := by
  generalize hr : eiR s = r
  replace hr := Lib.hid hr.symm
  have hsm : s.size ≤ maxLen := by unfold maxLen; omega
  cases h1 : planB s with
  | false =>
    have hres : Hid (r = (0, 7)) := Lib.hid (by rw [hr.out, eiR, h1]; rfl)
    have hc := Lib.hid (fun W => nocor12 s h1 W hsm)
    clear hr h1
    go_enter Try.func25, Try.ntmps25
    go_wp2_with fail
    refine (hc.out _).mono ?_
    rintro e w1 ⟨rfl, hb1⟩
    go_wp2
    go_ret2
    exact ⟨ret8_2 hres.out, hb1⟩
  | true =>
    have hres : Hid (r = ((erL s.data.toList : Int), 0)) := Lib.hid (by rw [hr.out, eiR, h1]; rfl)
    have hc := Lib.hid (fun W => nocor12 s h1 W hsm)
    have hct := Lib.hid (fun W => Try.strings_Count_one s 35 W)
    have he := Lib.hid (count12 s.data.toList)
    generalize Lib.countByte s.data.toList 35 = N at *
    clear hr h1
    go_enter Try.func25, Try.ntmps25
    go_wp2_with fail
    refine (hc.out _).mono ?_
    rintro e w1 ⟨rfl, hb1⟩
    go_wp2_with fail
    refine (hct.out _).mono ?_
    rintro e w2 ⟨rfl, rfl⟩
    go_wp2
    go_ret2
    exact ⟨ret8_2 (by rw [hres.out, he.out]), hb1⟩
end Go.Proofs.Ytomnnhmhmehdjaa

/- Corrections: FewestErased of the program. -/
namespace Go.Proofs.Ytomnnhmhmehdjaa
open Go.RowKit Go.ChangeShapes Go.WideShapes Go.Deep
set_option linter.unusedVariables false
set_option linter.unusedSimpArgs false

theorem plO_planC (ps : List OverD) (a b : UInt8) : planC (plO ps a b).1 = true := by
  unfold plO
  split
  · rfl
  · split
    · rfl
    · rfl
theorem planB_planL (ps : List OverD) (t s : ByteArray) {k : Nat} (hk : k ≤ 60) : planB ⟨(planL ps t s k).toArray⟩ = true := by
  have h1 := planL_size ps t s k
  simp only [planB, Bool.and_eq_true, decide_eq_true_eq]
  refine ⟨List.all_eq_true.2 fun x hx => ?_, ?_⟩
  · have hx2 : x ∈ planL ps t s k := hx
    rw [planL, List.mem_map] at hx2
    obtain ⟨i, _, rfl⟩ := hx2
    exact plO_planC ps _ _
  · rw [h1]; omega
set_option maxRecDepth 100000 in
set_option maxHeartbeats 1600000 in
theorem fe12_impl (A : Option Addr) (n c : Nat) (ps : List OverD) (t s : ByteArray) (w : World) (h : Overs w A n ps) (hn : n ≤ 1048576) (hg : ∀ x ∈ ps, x.good) (ht : t.size ≤ 1048576) (hs : s.size ≤ 1048576) :
    Calls Try.prog 29 #[.slice A n c, .string t, .string s] w fun e w' => e = .returned (.tuple #[.int .i64 (feR ps t s).1, .int .i64 (feR ps t s).2]) ∧ Below w.heap.size w w' := by
  generalize hr : feR ps t s = r
  replace hr := Lib.hid hr.symm
  have hc1 := Lib.hid (cp12_impl A n c ps t s w h hn hg ht hs)
  by_cases h0 : codeC ps t s = 0
  · obtain ⟨p0, p1, p2⟩ := codeC_ok h0
    have e1 : coP ps t s = (⟨(planL ps t s s.size).toArray⟩, ⟨(letsL ps t s s.size).toArray⟩, 0) := by rw [coP, if_pos h0]
    rw [e1] at hc1
    have hres : Hid (r = ((erL (planL ps t s s.size) : Int), 0)) := Lib.hid (by rw [hr.out, feR, if_pos h0])
    have hei : eiR ⟨(planL ps t s s.size).toArray⟩ = ((erL (planL ps t s s.size) : Int), 0) := by rw [eiR, if_pos (planB_planL ps t s p2)]
    have hc3 := Lib.hid (fun W => ei12_impl ⟨(planL ps t s s.size).toArray⟩ W (by rw [planL_size]; omega))
    rw [hei] at hc3
    clear hr h0 hg p0 p1 e1 hei h
    go_enter Try.func29, Try.ntmps29
    go_wp2_with fail
    refine hc1.out.mono ?_
    rintro e w1 ⟨rfl, hb1⟩
    go_wp2_with fail
    refine (hc3.out _).mono ?_
    rintro e w2 ⟨rfl, hb2⟩
    go_wp2
    go_ret2
    exact ⟨ret8_2 hres.out, hb1.step hb2⟩
  · have e1 : coP ps t s = (ByteArray.empty, ByteArray.empty, codeC ps t s) := by rw [coP, if_neg h0]
    rw [e1] at hc1
    have hres : Hid (r = (0, codeC ps t s)) := Lib.hid (by rw [hr.out, feR, if_neg h0])
    clear hr h hg e1
    generalize codeC ps t s = q at *
    have y1 : (q == 0) = false := beq_eq_false_iff_ne.2 h0
    have y2 : (q != 0) = true := by rw [bne, y1]; rfl
    replace h0 := Lib.hid h0
    go_enter Try.func29, Try.ntmps29
    go_wp2_with fail
    refine hc1.out.mono ?_
    rintro e w1 ⟨rfl, hb1⟩
    go_wp2
    go_ret2
    exact ⟨ret8_2 hres.out, hb1⟩
end Go.Proofs.Ytomnnhmhmehdjaa
