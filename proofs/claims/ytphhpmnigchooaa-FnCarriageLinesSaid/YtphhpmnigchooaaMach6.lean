/- What the model types, as a row of the call's own that can be appended to. -/
import Derived.Test.YtphhpmnigchooaaMach5
namespace Go.Proofs.Ytphhpmnigchooaa
open Go.RowKit Go.ChangeShapes Go.WideShapes Go.Deep
set_option linter.unusedVariables false
set_option linter.unusedSimpArgs false

theorem owns_mono {w : World} {base b' n size : Nat} {E : TypeId} {v : Value} {vs : List Value} (hb : b' ≤ base) (h : w.ownsRow base E size v n vs) : w.ownsRow b' E size v n vs := by
  obtain ⟨h1, h2 | ⟨g, cap, cur, h3, h4, h5⟩⟩ := h
  · exact ⟨h1, .inl h2⟩
  · exact ⟨h1, .inr ⟨g, cap, cur, h3, Nat.le_trans hb h4, h5⟩⟩
set_option maxRecDepth 100000 in
set_option maxHeartbeats 1600000 in
theorem typed_specW (c : CarriageD) (A : Option Addr) (n cc : Nat) (xs : List ActD) (w : World) (hg : c.good) (h : Acts w A n xs) (hn : n ≤ 1048576) (hx : ∀ x ∈ xs, x.good) :
    Calls Try.prog 29 #[.agg #[.int .i64 c.left, .int .i64 c.right, .int .i64 c.bell], .slice A n cc] w fun e w' => ∃ A' n' c', e = .returned (.tuple #[.slice A' n' c', .int .i64 (typed c xs).2.1, .int .i64 (typed c xs).2.2]) ∧ n' ≤ 1048576 ∧ w'.ownsRow w.heap.size 41 2 (.slice A' n' c') n' ((typed c xs).1.flatMap StruckD.cells) ∧ (typed c xs).1.length = n' ∧ Below w.heap.size w w' := by
  have hbo := fun W (hS : Acts W A n xs) => both_spec c A n cc xs W hS hn hx rfl
  cases hok : carOk c && actsOk xs with
  | false =>
    rw [(typed_no hok).1]
    rw [hok] at hbo
    replace hbo := Lib.hid hbo
    clear hok hx
    obtain ⟨left, right, bell⟩ := c
    go_enter Try.func29, Try.ntmps29
    go_wp2_with fail
    have hb0 := below_a1 w (.cells #[.int .i64 left, .int .i64 right, .int .i64 bell] 25)
    refine (hbo.out _ (h.below hb0)).mono ?_
    rintro e w1 ⟨rfl, hb1⟩
    go_wp2
    go_ret3
    exact ⟨none, 0, 0, rfl, by omega, ⟨rfl, .inl ⟨rfl, rfl⟩⟩, rfl, hb0.step hb1⟩
  | true =>
    have hcar := (both_iff.1 hok).1
    have hacts := (both_iff.1 hok).2
    have hlen : n ≤ 200 := by rw [← h.1]; exact of_decide_eq_true (Bool.and_eq_true _ _ ▸ hacts).2
    have hrn := Lib.hid (fun W (hS : Acts W A n xs) => run_spec c A n cc xs W hcar hS hlen (acts_mem hacts))
    have hfin := Lib.hid (ran_fine hcar hacts)
    have hle := ran_le c xs
    rw [h.1] at hle
    rw [hok] at hbo
    replace hbo := Lib.hid hbo
    rw [(typed_yes hok).1]
    try rw [h.1]
    clear hx hacts hcar hok
    generalize ran c xs = p at *
    obtain ⟨p1, p2⟩ := p
    simp only at hle
    obtain ⟨left, right, bell⟩ := c
    by_cases hlt : p2 < n
    · rw [if_pos hlt]
      go_enter Try.func29, Try.ntmps29
      go_wp2_with fail
      have hb0 := below_a1 w (.cells #[.int .i64 left, .int .i64 right, .int .i64 bell] 25)
      refine (hbo.out _ (h.below hb0)).mono ?_
      rintro e w1 ⟨rfl, hb1⟩
      have d0 : w1.cell? ⟨w.heap.size, 0, none⟩ = some (.int .i64 left) := cell_step (cell_new rfl rfl) hb1
      have d1 : w1.cell? ⟨w.heap.size, 1, none⟩ = some (.int .i64 right) := cell_step (cell_new rfl rfl) hb1
      have d2 : w1.cell? ⟨w.heap.size, 2, none⟩ = some (.int .i64 bell) := cell_step (cell_new rfl rfl) hb1
      have hb2 := Lib.hid (hb0.step hb1)
      have hS := h.below hb2.out
      clear hb0 hb1
      go_wp2_with fail
      refine (hrn.out _ hS).mono ?_
      rintro e w2 ⟨R, L, rfl, hb3, hM⟩
      have hb4 := Lib.hid (hb2.out.step hb3)
      have hz1 := hb2.out.size
      clear hb3
      obtain ⟨e0, e1, e2, e3, e4, e5, e6⟩ := hM.cells
      have hRl := hM.lt
      replace hM := Lib.hid hM
      clear d0 d1 d2 hb2 hS hrn hbo
      go_wp2
      go_ret3
      exact ⟨none, 0, 0, rfl, by omega, ⟨rfl, .inl ⟨rfl, rfl⟩⟩, rfl, hb4.out⟩
    · rw [if_neg hlt]
      obtain rfl : p2 = n := by omega
      clear hlt
      go_enter Try.func29, Try.ntmps29
      go_wp2_with fail
      have hb0 := below_a1 w (.cells #[.int .i64 left, .int .i64 right, .int .i64 bell] 25)
      refine (hbo.out _ (h.below hb0)).mono ?_
      rintro e w1 ⟨rfl, hb1⟩
      have d0 : w1.cell? ⟨w.heap.size, 0, none⟩ = some (.int .i64 left) := cell_step (cell_new rfl rfl) hb1
      have d1 : w1.cell? ⟨w.heap.size, 1, none⟩ = some (.int .i64 right) := cell_step (cell_new rfl rfl) hb1
      have d2 : w1.cell? ⟨w.heap.size, 2, none⟩ = some (.int .i64 bell) := cell_step (cell_new rfl rfl) hb1
      have hb2 := Lib.hid (hb0.step hb1)
      have hS := h.below hb2.out
      clear hb0 hb1
      go_wp2_with fail
      refine (hrn.out _ hS).mono ?_
      rintro e w2 ⟨R, L, rfl, hb3, hM⟩
      have hb4 := Lib.hid (hb2.out.step hb3)
      have hz1 := hb2.out.size
      clear hb3
      obtain ⟨e0, e1, e2, e3, e4, e5, e6⟩ := hM.cells
      have hRl := hM.lt
      replace hM := Lib.hid hM
      clear d0 d1 d2 hb2 hS hrn hbo
      obtain ⟨A', c', rfl, hO⟩ := owns_row rfl hM.out.owns
      have hOW := owns_mono hz1 hM.out.owns
      have hl : p1.out.length ≤ 1048576 := by have := hfin.out.2.2; omega
      have hres := Lib.hid hOW
      clear hO
      go_wp2
      go_quiet (fail)
      go_wp2
      go_ret3
      exact ⟨A', _, c', rfl, hl, hres.out, rfl, below_drewN hb4.out _⟩
end Go.Proofs.Ytphhpmnigchooaa
