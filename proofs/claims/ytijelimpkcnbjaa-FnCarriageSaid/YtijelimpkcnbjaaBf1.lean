/- The moves of the program: function values. -/
import Derived.Test.YtijelimpkcnbjaaBf0
import Derived.Test.YtijelimpkcnbjaaTs0
import Derived.Test.YtijelimpkcnbjaaTab3
namespace Go.Proofs.Ytijelimpkcnbjaa
open Go.RowKit Go.ChangeShapes Go.WideShapes Go.Deep
set_option linter.unusedVariables false
set_option linter.unusedSimpArgs false

theorem tab_low (ps : List Int) (a : Int) : tabP ps a = (ps[lowI8 (a + 1) ps]?).getD (-1) := by
  induction ps with
  | nil => rfl
  | cons x r ih =>
    rw [tabP, lowI8]
    by_cases h : a < x
    · rw [if_pos h, if_neg (by omega)]; rfl
    · rw [if_neg h, if_pos (by omega), List.getElem?_cons_succ]; exact ih
theorem stB_parts {ps : List Int} (h : stB ps = true) : ps.length ≤ 6 ∧ risesB 30 1 ps = true := by simpa [stB] using h
theorem tab_range {ps : List Int} (h : stB ps = true) (a : Int) : tabP ps a = -1 ∨ (1 ≤ tabP ps a ∧ tabP ps a ≤ 30) := by
  rw [tab_low]
  cases hx : ps[lowI8 (a + 1) ps]? with
  | none => exact .inl rfl
  | some x =>
    have := rises_ge (stB_parts h).2 x (List.mem_of_getElem? hx)
    exact .inr this
/-- What a move of the program gives. -/
def mvR (ps : List Int) (a : Int) (k : Nat) : Int × Bool := if k = 0 then (if tabP ps a = -1 then (a, false) else (tabP ps a, true)) else if k = 1 then (a - 1, decide (0 < a)) else (a + 1, decide (a < 30))
theorem mvR_some {ps : List Int} {a k n : Nat} (h : stB ps = true) (ha : a ≤ 30) (hk : k < 3) (hs : stK ps a k = some n) : mvR ps a k = ((n : Int), true) := by
  obtain ⟨h1, h2⟩ := stK_some hs
  unfold nextP at h1
  split at h1
  · match k, hk with
    | 0, _ =>
      have e : rawP ps a (mvB 0) = tabP ps a := rfl
      rw [e] at h1
      simp only [mvR, if_true]
      rw [if_neg (by omega), h1]
    | 1, _ =>
      have e : rawP ps a (mvB 1) = (a : Int) - 1 := rfl
      rw [e] at h1
      simp only [mvR, show ¬ (1 : Nat) = 0 from by omega, if_false, if_true]
      rw [h1, decide_eq_true (by omega)]
    | 2, _ =>
      have e : rawP ps a (mvB 2) = (a : Int) + 1 := rfl
      rw [e] at h1
      simp only [mvR, show ¬ (2 : Nat) = 0 from by omega, show ¬ (2 : Nat) = 1 from by omega, if_false]
      rw [h1, decide_eq_true (by omega)]
  · omega
theorem mvR_none {ps : List Int} {a k : Nat} (h : stB ps = true) (ha : a ≤ 30) (hk : k < 3) (hs : stK ps a k = none) : ∃ m, mvR ps a k = (m, false) := by
  unfold stK at hs
  split at hs
  · cases hs
  · rename_i h0
    match k, hk with
    | 0, _ =>
      have e : rawP ps a (mvB 0) = tabP ps a := rfl
      have hr := tab_range h a
      unfold nextP at h0
      rw [e] at h0
      refine ⟨a, ?_⟩
      rcases hr with h1 | h1
      · simp [mvR, h1]
      · exfalso
        rw [if_pos (inR_iff.2 ⟨by omega, by omega⟩)] at h0
        omega
    | 1, _ =>
      have e : rawP ps a (mvB 1) = (a : Int) - 1 := rfl
      unfold nextP at h0
      rw [e] at h0
      refine ⟨(a : Int) - 1, ?_⟩
      have : ¬ (0 : Int) < a := fun hp => by
        rw [if_pos (inR_iff.2 ⟨by omega, by omega⟩)] at h0
        omega
      simp only [mvR, show ¬ (1 : Nat) = 0 from by omega, if_false, if_true]
      rw [decide_eq_false this]
    | 2, _ =>
      have e : rawP ps a (mvB 2) = (a : Int) + 1 := rfl
      unfold nextP at h0
      rw [e] at h0
      refine ⟨(a : Int) + 1, ?_⟩
      have : ¬ (a : Int) < 30 := fun hp => by
        rw [if_pos (inR_iff.2 ⟨by omega, by omega⟩)] at h0
        omega
      simp only [mvR, show ¬ (2 : Nat) = 0 from by omega, show ¬ (2 : Nat) = 1 from by omega, if_false]
      rw [decide_eq_false this]
/-- The moves in memory. -/
structure MovsAt (w : World) (ps : List Int) (g B : Nat) (A : Option Addr) (n c : Nat) : Prop where
  c0 : w.cell? ⟨g, 0, none⟩ = some (.int .i32 35)
  c1 : w.cell? ⟨g, 1, none⟩ = some (.func (.func 34) #[] #[.pointer (some ⟨B, 0, none⟩)])
  c2 : w.cell? ⟨g, 2, none⟩ = some (.int .i32 60)
  c3 : w.cell? ⟨g, 3, none⟩ = some (.func (.func 36) #[] #[])
  c4 : w.cell? ⟨g, 4, none⟩ = some (.int .i32 62)
  c5 : w.cell? ⟨g, 5, none⟩ = some (.func (.func 37) #[] #[])
  box : w.cell? ⟨B, 0, none⟩ = some (.slice A n c)
  stops : Ints w A n ps
  few : n ≤ 6
def Movs (w : World) (ps : List Int) (M : Value) : Prop := ∃ g B A n c, M = .slice (some ⟨g, 0, none⟩) 3 3 ∧ MovsAt w ps g B A n c
theorem MovsAt.below {w w' : World} {ps : List Int} {g B : Nat} {A : Option Addr} {n c : Nat} (h : MovsAt w ps g B A n c) (hb : Below w.heap.size w w') : MovsAt w' ps g B A n c :=
  ⟨cell_step h.c0 hb, cell_step h.c1 hb, cell_step h.c2 hb, cell_step h.c3 hb, cell_step h.c4 hb, cell_step h.c5 hb, cell_step h.box hb, h.stops.below hb, h.few⟩
theorem mv11_0 (g B : Nat) (A : Option Addr) (n c : Nat) (ps : List Int) (a : Nat) (w : World) (h : MovsAt w ps g B A n c) (hs : stB ps = true) (ha : a ≤ 30) {m : Int} {b : Bool} (hr : mvR ps a 0 = (m, b)) :
    Calls Try.prog 34 #[.int .i64 a, .pointer (some ⟨B, 0, none⟩)] w fun e w' => e = .returned (.tuple #[.int .i64 m, .bool b]) ∧ w = w' := by
  have hc := h.box
  have hst := h.stops
  have hl := Lib.hid hst.1
  have hn := h.few
  have hlt := rises_lt (stB_parts hs).2
  have hsr := Lib.hid (search8 A n c ps ((a : Int) + 1) w hst (by omega) hlt rfl)
  have htl := tab_low ps a
  have hw : IntKind.i64.wrap ((a : Int) + 1) = (a : Int) + 1 := IntWalk.i64_in _ (by omega)
  have hle := lowI8_le ((a : Int) + 1) ps
  rw [hst.1] at hle
  by_cases hlow : lowI8 ((a : Int) + 1) ps < n
  · obtain ⟨b0, off, x, rfl, hb0, hx, c0⟩ := int_at hst hlow
    have hx2 := rises_ge (stB_parts hs).2 x (List.mem_of_getElem? hx.out)
    have htx : tabP ps a = x := by rw [htl, hx.out]; rfl
    have hmb : m = x ∧ b = true := by
      have : mvR ps a 0 = (x, true) := by simp only [mvR, if_true]; rw [htx, if_neg (by omega)]
      rw [this] at hr
      cases hr
      exact ⟨rfl, rfl⟩
    obtain ⟨rfl, rfl⟩ := hmb
    clear hr htl htx hlt hs hst h hx2 hx
    generalize hj : lowI8 ((a : Int) + 1) ps = j at *
    have g1 : ((j : Int) == (n : Int)) = false := beq_eq_false_iff_ne.2 (by omega)
    have g2 : (j == n) = false := beq_eq_false_iff_ne.2 (by omega)
    have h0 : (0 : Int) ≤ (j : Int) := Int.natCast_nonneg _
    have h1 : (j : Int) < (n : Int) := by omega
    replace hj := Lib.hid hj
    replace hw := Lib.hid hw
    go_enter Try.func34, Try.ntmps34
    go_wp2_with fail
    refine hsr.out.mono ?_
    rintro e w1 ⟨rfl, rfl⟩
    go_wp2
    go_ret2
    exact ⟨rfl, rfl⟩
  · have hmb : m = a ∧ b = false := by
      have : mvR ps a 0 = ((a : Int), false) := by
        simp only [mvR, if_true]
        rw [if_pos]
        rw [htl, List.getElem?_eq_none (by rw [hl.out]; omega)]
        rfl
      rw [this] at hr
      cases hr
      exact ⟨rfl, rfl⟩
    obtain ⟨rfl, rfl⟩ := hmb
    have e : lowI8 ((a : Int) + 1) ps = n := by omega
    rw [e] at hsr
    clear hr htl hlt hs hst h hle hlow e
    replace hw := Lib.hid hw
    go_enter Try.func34, Try.ntmps34
    go_wp2_with fail
    refine hsr.out.mono ?_
    rintro e w1 ⟨rfl, rfl⟩
    go_wp2
    go_ret2
    exact ⟨rfl, rfl⟩
theorem mv11_1 (ps : List Int) (a : Nat) (w : World) (ha : a ≤ 30) {m : Int} {b : Bool} (hr : mvR ps a 1 = (m, b)) :
    Calls Try.prog 36 #[.int .i64 a] w fun e w' => e = .returned (.tuple #[.int .i64 m, .bool b]) ∧ w = w' := by
  have hmb : m = (a : Int) - 1 ∧ b = decide (0 < a) := by
    have : mvR ps a 1 = ((a : Int) - 1, decide (0 < a)) := by simp [mvR]
    rw [this] at hr
    cases hr
    exact ⟨rfl, rfl⟩
  obtain ⟨rfl, rfl⟩ := hmb
  clear hr
  go_enter Try.func36, Try.ntmps36
  go_wp2
  go_ret2
  exact ⟨by simp, rfl⟩
theorem mv11_2 (ps : List Int) (a : Nat) (w : World) (ha : a ≤ 30) {m : Int} {b : Bool} (hr : mvR ps a 2 = (m, b)) :
    Calls Try.prog 37 #[.int .i64 a] w fun e w' => e = .returned (.tuple #[.int .i64 m, .bool b]) ∧ w = w' := by
  have hmb : m = (a : Int) + 1 ∧ b = decide ((a : Int) < 30) := by
    have : mvR ps a 2 = ((a : Int) + 1, decide ((a : Int) < 30)) := by simp [mvR]
    rw [this] at hr
    cases hr
    exact ⟨rfl, rfl⟩
  obtain ⟨rfl, rfl⟩ := hmb
  clear hr
  go_enter Try.func37, Try.ntmps37
  go_wp2
  go_ret2
  exact ⟨by simp, rfl⟩
set_option maxHeartbeats 1600000 in
theorem movesWith11 (A : Option Addr) (n c : Nat) (ps : List Int) (w : World) (h : Ints w A n ps) (hn : n ≤ 6) :
    Calls Try.prog 26 #[.slice A n c] w fun e w' => ∃ M, e = .returned M ∧ Movs w' ps M ∧ Below w.heap.size w w' := by
  have hmf : ∀ (fn : Fn) (first cap : Array Value) (w : World), (Instr.makeFunc fn first cap).run Try.prog w = .ok (.func fn first cap) w := fun _ _ _ _ => rfl
  go_enter Try.func26, Try.ntmps26
  go_wp2
  go_ret
  have hb2 : Below w.heap.size w (w.alloc (.cells #[.slice A n c] 26)) := (Below.refl _ _).alloc (Nat.le_refl _) _
  refine ⟨_, rfl, ⟨_, w.heap.size, A, n, c, rfl, ⟨?_, ?_, ?_, ?_, ?_, ?_, ?_, ?_, hn⟩⟩, (hb2.alloc (by simp) _)⟩
  all_goals first | exact cell_new (by simp) rfl | exact cell_on (cell_new rfl rfl) _ | skip
  exact (h.below hb2).below (below_a1 _ _)
end Go.Proofs.Ytijelimpkcnbjaa
