/- What the model tells of acts: TypeActs, BellsOf, LockedAt. -/
import Derived.Test.YtphhpmnigchooaaMach4
import Derived.Test.YtphhpmnigchooaaStruckO
namespace Go.Proofs.Ytphhpmnigchooaa
open Go.RowKit Go.ChangeShapes Go.WideShapes Go.Deep
set_option linter.unusedVariables false
set_option linter.unusedSimpArgs false

set_option maxRecDepth 100000 in
theorem both_spec (c : CarriageD) (A : Option Addr) (n cc : Nat) (xs : List ActD) (w : World) (h : Acts w A n xs) (hn : n ≤ 1048576) (hx : ∀ x ∈ xs, x.good) {v : Bool} (hv : (carOk c && actsOk xs) = v) :
    Calls Try.prog 37 #[.agg #[.int .i64 c.left, .int .i64 c.right, .int .i64 c.bell], .slice A n cc] w fun e w' => e = .returned (.bool v) ∧ Below w.heap.size w w' := by
  cases hc : carOk c with
  | false =>
    have hr : Hid (v = false) := Lib.hid (by rw [← hv, hc]; rfl)
    have hc1 := Lib.hid (fun W => car_spec c hc W)
    clear hv hc hx
    obtain ⟨left, right, bell⟩ := c
    go_enter Try.func37, Try.ntmps37
    go_wp2_with fail
    refine (hc1.out _).mono ?_
    rintro e w1 ⟨rfl, hb1⟩
    go_wp2
    go_ret
    exact ⟨ret_bo hr.out.symm, (below_a1 _ _).step hb1⟩
  | true =>
    have hr : Hid (v = actsOk xs) := Lib.hid (by rw [← hv, hc]; rfl)
    have hc1 := Lib.hid (fun W => car_spec c hc W)
    have hl1 := Lib.hid (fun W (hS : Acts W A n xs) => acts_spec A n cc xs W hS hn hx)
    clear hv hc hx
    obtain ⟨left, right, bell⟩ := c
    go_enter Try.func37, Try.ntmps37
    go_wp2_with fail
    refine (hc1.out _).mono ?_
    rintro e w1 ⟨rfl, hb1⟩
    have hb2 := (below_a1 _ _).step hb1
    have hS := h.below hb2
    go_wp2_with fail
    refine (hl1.out _ hS).mono ?_
    rintro e w2 ⟨rfl, hb3⟩
    go_wp2
    go_ret
    exact ⟨ret_bo hr.out.symm, hb2.step hb3⟩

theorem both_iff {a b : Bool} : (a && b) = true ↔ a = true ∧ b = true := by simp
theorem typed_no {c : CarriageD} {l : List ActD} (h : (carOk c && actsOk l) = false) : typed c l = ([], 0, 1) ∧ bellsR c l = (0, 1) ∧ lockedR c l = (0, 1) := by
  have : ¬ (carOk c = true ∧ actsOk l = true) := by rw [← both_iff, h]; decide
  exact ⟨if_neg this, if_neg this, if_neg this⟩
theorem typed_yes {c : CarriageD} {l : List ActD} (h : (carOk c && actsOk l) = true) : typed c l = (if (ran c l).2 < l.length then ([], 0, 6) else ((ran c l).1.out, (ran c l).1.at_, 0)) ∧ bellsR c l = (((ran c l).1.bells : Int), 0) ∧ lockedR c l = (if (ran c l).2 < l.length then (((ran c l).2 : Int), 0) else (0, 3)) := by
  have := both_iff.1 h
  exact ⟨if_pos this, if_pos this, if_pos this⟩
theorem ran_le (c : CarriageD) (l : List ActD) : (ran c l).2 ≤ l.length := runS_le c l _
theorem owns_row {w : World} {base n : Nat} {L : Value} {l : List StruckD} (hn : l.length = n) (h : w.ownsRow base 41 2 L n (l.flatMap StruckD.cells)) : ∃ A c, L = .slice A n c ∧ OStrucks w base A n l := by
  subst hn
  exact ORow.of_owns (fun _ => rfl) h

set_option maxRecDepth 100000 in
set_option maxHeartbeats 1600000 in
theorem typed_spec (c : CarriageD) (A : Option Addr) (n cc : Nat) (xs : List ActD) (w : World) (hg : c.good) (h : Acts w A n xs) (hn : n ≤ 1048576) (hx : ∀ x ∈ xs, x.good) :
    Calls Try.prog 29 #[.agg #[.int .i64 c.left, .int .i64 c.right, .int .i64 c.bell], .slice A n cc] w fun e w' => ∃ A' n' c', e = .returned (.tuple #[.slice A' n' c', .int .i64 (typed c xs).2.1, .int .i64 (typed c xs).2.2]) ∧ n' ≤ 1048576 ∧ OStrucks w' w.heap.size A' n' (typed c xs).1 ∧ Below w.heap.size w w' := by
  have hbo := fun W (hS : Acts W A n xs) => both_spec c A n cc xs W hS hn hx rfl
  cases hok : carOk c && actsOk xs with
  | false =>
    rw [(typed_no hok).1]
    rw [hok] at hbo
    replace hbo := Lib.hid hbo
    clear hok hx
    obtain ⟨left, right, bell⟩ := c
    go_enter Try.func29, Try.ntmps29
    go_wp2_with fail
    have hb0 := below_a1 w (.cells #[.int .i64 left, .int .i64 right, .int .i64 bell] 25)
    refine (hbo.out _ (h.below hb0)).mono ?_
    rintro e w1 ⟨rfl, hb1⟩
    go_wp2
    go_ret3
    exact ⟨none, 0, 0, rfl, by omega, .nil_, hb0.step hb1⟩
  | true =>
    have hcar := (both_iff.1 hok).1
    have hacts := (both_iff.1 hok).2
    have hlen : n ≤ 200 := by rw [← h.1]; exact of_decide_eq_true (Bool.and_eq_true _ _ ▸ hacts).2
    have hrn := Lib.hid (fun W (hS : Acts W A n xs) => run_spec c A n cc xs W hcar hS hlen (acts_mem hacts))
    have hfin := Lib.hid (ran_fine hcar hacts)
    have hle := ran_le c xs
    rw [h.1] at hle
    rw [hok] at hbo
    replace hbo := Lib.hid hbo
    rw [(typed_yes hok).1]
    try rw [h.1]
    clear hx hacts hcar hok
    generalize ran c xs = p at *
    obtain ⟨p1, p2⟩ := p
    simp only at hle
    obtain ⟨left, right, bell⟩ := c
    by_cases hlt : p2 < n
    · rw [if_pos hlt]
      go_enter Try.func29, Try.ntmps29
      go_wp2_with fail
      have hb0 := below_a1 w (.cells #[.int .i64 left, .int .i64 right, .int .i64 bell] 25)
      refine (hbo.out _ (h.below hb0)).mono ?_
      rintro e w1 ⟨rfl, hb1⟩
      have d0 : w1.cell? ⟨w.heap.size, 0, none⟩ = some (.int .i64 left) := cell_step (cell_new rfl rfl) hb1
      have d1 : w1.cell? ⟨w.heap.size, 1, none⟩ = some (.int .i64 right) := cell_step (cell_new rfl rfl) hb1
      have d2 : w1.cell? ⟨w.heap.size, 2, none⟩ = some (.int .i64 bell) := cell_step (cell_new rfl rfl) hb1
      have hb2 := Lib.hid (hb0.step hb1)
      have hS := h.below hb2.out
      clear hb0 hb1
      go_wp2_with fail
      refine (hrn.out _ hS).mono ?_
      rintro e w2 ⟨R, L, rfl, hb3, hM⟩
      have hb4 := Lib.hid (hb2.out.step hb3)
      have hz1 := hb2.out.size
      clear hb3
      obtain ⟨e0, e1, e2, e3, e4, e5, e6⟩ := hM.cells
      have hRl := hM.lt
      replace hM := Lib.hid hM
      clear d0 d1 d2 hb2 hS hrn hbo
      go_wp2
      go_ret3
      exact ⟨none, 0, 0, rfl, by omega, .nil_, hb4.out⟩
    · rw [if_neg hlt]
      obtain rfl : p2 = n := by omega
      clear hlt
      go_enter Try.func29, Try.ntmps29
      go_wp2_with fail
      have hb0 := below_a1 w (.cells #[.int .i64 left, .int .i64 right, .int .i64 bell] 25)
      refine (hbo.out _ (h.below hb0)).mono ?_
      rintro e w1 ⟨rfl, hb1⟩
      have d0 : w1.cell? ⟨w.heap.size, 0, none⟩ = some (.int .i64 left) := cell_step (cell_new rfl rfl) hb1
      have d1 : w1.cell? ⟨w.heap.size, 1, none⟩ = some (.int .i64 right) := cell_step (cell_new rfl rfl) hb1
      have d2 : w1.cell? ⟨w.heap.size, 2, none⟩ = some (.int .i64 bell) := cell_step (cell_new rfl rfl) hb1
      have hb2 := Lib.hid (hb0.step hb1)
      have hS := h.below hb2.out
      clear hb0 hb1
      go_wp2_with fail
      refine (hrn.out _ hS).mono ?_
      rintro e w2 ⟨R, L, rfl, hb3, hM⟩
      have hb4 := Lib.hid (hb2.out.step hb3)
      have hz1 := hb2.out.size
      clear hb3
      obtain ⟨e0, e1, e2, e3, e4, e5, e6⟩ := hM.cells
      have hRl := hM.lt
      replace hM := Lib.hid hM
      clear d0 d1 d2 hb2 hS hrn hbo
      obtain ⟨A', c', rfl, hO⟩ := owns_row rfl hM.out.owns
      have hl : p1.out.length ≤ 1048576 := by have := hfin.out.2.2; omega
      have hres := Lib.hid (hO.mono hz1)
      clear hO
      go_wp2
      go_quiet (fail)
      go_wp2
      go_ret3
      exact ⟨A', _, c', rfl, hl, hres.out, below_drewN hb4.out _⟩
end Go.Proofs.Ytphhpmnigchooaa
