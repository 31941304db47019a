/- The program's plans between two columns. -/
import Derived.Test.YtijelimpkcnbjaaBf3
import Derived.Test.YtijelimpkcnbjaaTm4
namespace Go.Proofs.Ytijelimpkcnbjaa
open Go.RowKit Go.ChangeShapes Go.WideShapes Go.Deep
set_option linter.unusedVariables false
set_option linter.unusedSimpArgs false

theorem isv11 {a b : Int} {v : Bool} (h : (inR a 0 30 && inR b 0 30) = v) (w : World) :
    Calls Try.prog 24 #[.agg #[.int .i64 a, .int .i64 b]] w fun e w' => e = .returned (.bool v) ∧ Below w.heap.size w w' := by
  have hb0 := below_a1 w (.cells #[.int .i64 a, .int .i64 b] 48)
  cases h1 : inR a 0 30 with
  | true =>
    have hr : Hid (inR b 0 30 = v) := Lib.hid (by rw [← h, h1, Bool.true_and])
    have hc1 := Lib.hid (fun W => in8_impl h1 W)
    have hc2 := Lib.hid (fun W => in8_impl hr.out W)
    clear h h1
    go_enter Try.func24, Try.ntmps24
    go_wp2_with fail
    refine (hc1.out _).mono ?_
    rintro e w1 ⟨rfl, rfl⟩
    go_wp2_with fail
    refine (hc2.out _).mono ?_
    rintro e w2 ⟨rfl, rfl⟩
    go_wp2
    go_ret
    exact ⟨rfl, hb0⟩
  | false =>
    have hr : Hid (false = v) := Lib.hid (by rw [← h, h1, Bool.false_and])
    have hc1 := Lib.hid (fun W => in8_impl h1 W)
    clear h h1
    go_enter Try.func24, Try.ntmps24
    go_wp2_with fail
    refine (hc1.out _).mono ?_
    rintro e w1 ⟨rfl, rfl⟩
    go_wp2
    go_ret
    exact ⟨ret_bo hr.out, hb0⟩
theorem mvC_1 {ps : List Int} {a b : Int} (h : stB ps = false) : mvC ps a b = 1 := by simp [mvC, h]
theorem mvC_2 {ps : List Int} {a b : Int} (h : stB ps = true) (h2 : (inR a 0 30 && inR b 0 30) = false) : mvC ps a b = 2 := by rw [mvC, if_pos h, h2]; rfl
theorem mvC_0 {ps : List Int} {a b : Int} (h : stB ps = true) (h2 : (inR a 0 30 && inR b 0 30) = true) : mvC ps a b = 0 := by rw [mvC, if_pos h, h2]; rfl
/-- The search, called with the moves as they were made. -/
theorem planMovs {ps : List Int} {s t : Nat} (hs : s ≤ 30) (ht : t ≤ 30) (hst : stB ps = true) (M : Value) (w : World) (hM : Movs w ps M) {P : ByteArray} (hP : (⟨(wayP ps t s).toArray⟩ : ByteArray) = P) :
    Calls Try.prog 25 #[.agg #[.int .i64 s, .int .i64 t], M] w fun e w' => e = .returned (.string P) ∧ Below w.heap.size w w' := by
  obtain ⟨g, B, A, n, c, rfl, hM⟩ := hM
  exact planW11 ps g B A n c s t hs ht hst w hM hP
theorem Movs.below {w w' : World} {ps : List Int} {M : Value} (h : Movs w ps M) (hb : Below w.heap.size w w') : Movs w' ps M := by
  obtain ⟨g, B, A, n, c, rfl, hM⟩ := h
  exact ⟨g, B, A, n, c, rfl, hM.below hb⟩
set_option maxRecDepth 100000 in
set_option maxHeartbeats 2400000 in
theorem pbW11 (A : Option Addr) (n c : Nat) (ps : List Int) (a b : Int) (w : World) (h : Ints w A n ps) (hn : n ≤ 1048576) {r : ByteArray × Int} (hr : pbR ps a b = r) :
    Calls Try.prog 13 #[.slice A n c, .int .i64 a, .int .i64 b] w fun e w' => e = .returned (.tuple #[.string r.1, .int .i64 r.2]) ∧ Below w.heap.size w w' := by
  cases h1 : stB ps with
  | false =>
    have hc := Lib.hid (vs11_implV A n c ps h1 w h hn)
    have hrr : Hid (r = (ByteArray.empty, 1)) := Lib.hid (by rw [← hr, pbR, mvC_1 h1]; rfl)
    clear h1 hr h
    go_enter Try.func13, Try.ntmps13
    go_wp2_with fail
    refine hc.out.mono ?_
    rintro e w1 ⟨rfl, rfl⟩
    go_wp2
    go_ret2
    exact ⟨by rw [hrr.out]; rfl, Below.refl _ _⟩
  | true =>
    have hc := Lib.hid (vs11_implV A n c ps h1 w h hn)
    cases h2 : (inR a 0 30 && inR b 0 30) with
    | false =>
      have hrr : Hid (r = (ByteArray.empty, 2)) := Lib.hid (by rw [← hr, pbR, mvC_2 h1 h2]; rfl)
      have hv := Lib.hid (fun W => isv11 h2 W)
      clear h1 h2 hr h
      go_enter Try.func13, Try.ntmps13
      go_wp2_with fail
      refine hc.out.mono ?_
      rintro e w1 ⟨rfl, rfl⟩
      go_wp2_with fail
      refine (hv.out _).mono ?_
      rintro e w2 ⟨rfl, hb2⟩
      go_wp2
      go_ret2
      exact ⟨by rw [hrr.out]; rfl, (below_a1 w _).trans (hb2.mono (by simp))⟩
    | true =>
      have hok := mvC_ok (mvC_0 h1 h2)
      obtain ⟨_, ha0, ha1, hb0, hb1⟩ := hok
      obtain ⟨s, rfl⟩ : ∃ s : Nat, (s : Int) = a := ⟨a.toNat, by omega⟩
      obtain ⟨t, rfl⟩ : ∃ t : Nat, (t : Int) = b := ⟨b.toNat, by omega⟩
      have hs : s ≤ 30 := by omega
      have ht : t ≤ 30 := by omega
      have hrr : Hid (r = (⟨(wayP ps t s).toArray⟩, 0)) := Lib.hid (by rw [← hr, pbR, if_pos (mvC_0 h1 h2)]; rfl)
      have hv := Lib.hid (fun W => isv11 h2 W)
      have h6 : n ≤ 6 := by have := (stB_parts h1).1; rw [h.1] at this; exact this
      have hmw := Lib.hid (fun W (hW : Ints W A n ps) => movesWith11 A n c ps W hW h6)
      have hpl := Lib.hid (fun M W (hM : Movs W ps M) => planMovs hs ht h1 M W hM rfl)
      clear h1 h2 hr ha0 ha1 hb0 hb1 h6 hs ht
      go_enter Try.func13, Try.ntmps13
      go_wp2_with fail
      refine hc.out.mono ?_
      rintro e w1 ⟨rfl, rfl⟩
      go_wp2_with fail
      refine (hv.out _).mono ?_
      rintro e w2 ⟨rfl, hb2⟩
      have hbw : Hid (Below w.heap.size w w2) := Lib.hid ((below_a1 w _).trans (hb2.mono (by simp)))
      have hwl : w.heap.size < w2.heap.size := by have := hb2.size; simp at this; omega
      have d0 := cell_step (cell_new (w := w) (cs := #[.int .i64 (s : Int), .int .i64 (t : Int)]) (t := 48) (o := 0) rfl rfl) hb2
      have d1 := cell_step (cell_new (w := w) (cs := #[.int .i64 (s : Int), .int .i64 (t : Int)]) (t := 48) (o := 1) rfl rfl) hb2
      have hi2 := Lib.hid (h.below hbw.out)
      clear hb2 h
      go_wp2_with fail
      refine wp_region_held_drew (S := (fun W => Below w2.heap.size w2 W ∧ W.cell? ⟨w.heap.size, 0, none⟩ = some (.int .i64 (s : Int)) ∧ W.cell? ⟨w.heap.size, 1, none⟩ = some (.int .i64 (t : Int)))) (by kernel_rfl) ?_ (fun hHeld => ?_)
      · exact ⟨(Below.refl _ _).drew, d0, d1⟩
      refine wpAnyH_take (i := 0) (v := ?vpbU1_0) rfl (by kernel_rfl) (by kernel_rfl) (by kernel_rfl) (fun _ _ _ h => h) (Or.inl ⟨rfl, ?ypbU1_0⟩) (by assumption) ?_
      case ypbU1_0 => (intro w hSw; (try dsimp only at hSw); go_simp; first | done | with_reducible rfl)
      simp only [List.getElem_toArray, List.getElem_cons_succ, List.getElem_cons_zero, Act.put, List.setIfInBounds_toArray, List.set_cons_zero, List.set_cons_succ]
      refine wpAnyH_take (i := 1) (v := ?vpbU1_1) rfl (by kernel_rfl) (by kernel_rfl) (by kernel_rfl) (fun _ _ _ h => h) (Or.inl ⟨rfl, ?ypbU1_1⟩) (by assumption) ?_
      case ypbU1_1 => (intro w hSw; (try dsimp only at hSw); go_simp; first | done | with_reducible rfl)
      simp only [List.getElem_toArray, List.getElem_cons_succ, List.getElem_cons_zero, Act.put, List.setIfInBounds_toArray, List.set_cons_zero, List.set_cons_succ]
      refine wpAnyH_ready (rs := [2]) (by kernel_rfl) (by simp) ?_
      refine AllReadyH.cons rfl (fun K hK => ?_) AllReadyH.nil
      go_simp
      refine (hmw.out _ (hi2.out.below hHeld.1)).mono ?_
      rintro e w3 ⟨M, rfl, hM3, hb3⟩
      go_wp2_with fail
      refine hK.out _ _ ?_ (fun hHeld => ?_)
      · exact ⟨hHeld.1.trans (hb3.mono hHeld.1.size), cell_step hHeld.2.1 hb3, cell_step hHeld.2.2 hb3⟩
      clear hK K
      try simp only [List.getElem_toArray, List.getElem_cons_succ, List.getElem_cons_zero, Act.put, List.setIfInBounds_toArray, List.set_cons_zero, List.set_cons_succ]
      refine wpAnyH_ready (rs := [3]) (by kernel_rfl) (by simp) ?_
      refine AllReadyH.cons rfl (fun K hK => ?_) AllReadyH.nil
      go_simp
      refine (hpl.out M _ hM3).mono ?_
      rintro e w4 ⟨rfl, hb4⟩
      go_wp2_with fail
      refine hK.out _ _ ?_ (fun hHeld => ?_)
      · exact ⟨hHeld.1.trans (hb4.mono hHeld.1.size), cell_step hHeld.2.1 hb4, cell_step hHeld.2.2 hb4⟩
      clear hK K
      try simp only [List.getElem_toArray, List.getElem_cons_succ, List.getElem_cons_zero, Act.put, List.setIfInBounds_toArray, List.set_cons_zero, List.set_cons_succ]
      refine wpAnyH_take (i := 4) (v := ?vpbU1_4) rfl (by kernel_rfl) (by kernel_rfl) (by kernel_rfl) (fun _ _ _ h => h) (Or.inl ⟨rfl, ?ypbU1_4⟩) (by assumption) ?_
      case ypbU1_4 => (intro w hSw; (try dsimp only at hSw); go_simp; first | done | with_reducible rfl)
      simp only [List.getElem_toArray, List.getElem_cons_succ, List.getElem_cons_zero, Act.put, List.setIfInBounds_toArray, List.set_cons_zero, List.set_cons_succ]
      refine wpAnyH_take (i := 5) (v := ?vpbU1_5) rfl (by kernel_rfl) (by kernel_rfl) (by kernel_rfl) (fun _ _ _ h => h) (Or.inl ⟨rfl, ?ypbU1_5⟩) (by assumption) ?_
      case ypbU1_5 => (intro w hSw; (try dsimp only at hSw); go_simp; first | done | with_reducible rfl)
      simp only [List.getElem_toArray, List.getElem_cons_succ, List.getElem_cons_zero, Act.put, List.setIfInBounds_toArray, List.set_cons_zero, List.set_cons_succ]
      refine wpAnyH_done (by kernel_rfl) ?_ _
      have hend := Lib.hid hHeld.1
      clear hHeld
      go_wp2
      go_ret2
      exact ⟨by rw [hrr.out]; rfl, hbw.out.trans (hend.out.mono (by omega))⟩
theorem pb11_impl (A : Option Addr) (n c : Nat) (ps : List Int) (a b : Int) (w : World) (h : Ints w A n ps) (hn : n ≤ 1048576) (hx : ∀ x ∈ ps, intGood x) (ha : (Lit.int .i64 a).wf = true) (hb : (Lit.int .i64 b).wf = true) :
    Calls Try.prog 13 #[.slice A n c, .int .i64 a, .int .i64 b] w fun e w' => e = .returned (.tuple #[.string (pbR ps a b).1, .int .i64 (pbR ps a b).2]) ∧ Below w.heap.size w w' := pbW11 A n c ps a b w h hn rfl
theorem mb_len (ps : List Int) (a b : Int) : mbR ps a b = ((((pbR ps a b).1.size : Nat) : Int), (pbR ps a b).2) := by
  unfold mbR pbR
  by_cases h : mvC ps a b = 0
  · rw [if_pos h, if_pos h]
    obtain ⟨h1, h2, h3, h4, h5⟩ := mvC_ok h
    obtain ⟨F, hF⟩ := isFar_ex ps (t := b.toNat) (by omega)
    have hf := hF.far (by omega)
    have h30 := far_30 (by omega) hf.zero hf.step (a := a.toNat) (by omega)
    have hl := way_len hf 31 a.toNat (by omega) (by omega)
    have e : (ByteArray.mk (wayP ps b.toNat a.toNat).toArray).size = (wayL ps (farP ps b.toNat) 31 a.toNat).length := by rfl
    rw [e, hl]
  · rw [if_neg h, if_neg h]; rfl
set_option maxHeartbeats 1600000 in
theorem mbW11 (A : Option Addr) (n c : Nat) (ps : List Int) (a b : Int) (w : World) (h : Ints w A n ps) (hn : n ≤ 1048576) {r : Int × Int} (hr : mbR ps a b = r) :
    Calls Try.prog 12 #[.slice A n c, .int .i64 a, .int .i64 b] w fun e w' => e = .returned (.tuple #[.int .i64 r.1, .int .i64 r.2]) ∧ Below w.heap.size w w' := by
  obtain ⟨q, hq⟩ : ∃ q, pbR ps a b = q := ⟨_, rfl⟩
  have hrr : Hid (r = (((q.1.size : Nat) : Int), q.2)) := Lib.hid (by rw [← hr, mb_len, hq])
  have hc := Lib.hid (pbW11 A n c ps a b w h hn hq)
  clear hq hr h
  go_enter Try.func12, Try.ntmps12
  go_wp2_with fail
  refine hc.out.mono ?_
  rintro e w1 ⟨rfl, hb1⟩
  go_wp2
  go_ret2
  exact ⟨by rw [hrr.out]; rfl, hb1⟩
theorem mb11_impl (A : Option Addr) (n c : Nat) (ps : List Int) (a b : Int) (w : World) (h : Ints w A n ps) (hn : n ≤ 1048576) (hx : ∀ x ∈ ps, intGood x) (ha : (Lit.int .i64 a).wf = true) (hb : (Lit.int .i64 b).wf = true) :
    Calls Try.prog 12 #[.slice A n c, .int .i64 a, .int .i64 b] w fun e w' => e = .returned (.tuple #[.int .i64 (mbR ps a b).1, .int .i64 (mbR ps a b).2]) ∧ Below w.heap.size w w' := mbW11 A n c ps a b w h hn rfl
end Go.Proofs.Ytijelimpkcnbjaa
