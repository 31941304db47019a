/- The model's machine that types: its block of seven cells and the list that it owns. -/
import Derived.Test.YtphhpmnigchooaaCar3
namespace Go.Proofs.Ytphhpmnigchooaa
open Go.RowKit Go.ChangeShapes Go.WideShapes Go.Deep
set_option linter.unusedVariables false
set_option linter.unusedSimpArgs false

/-- The machine at block R; its list is L, a row of the call's own (numbers from base on). -/
def Mach (w : World) (base R : Nat) (c : CarriageD) (s : StD) (L : Value) : Prop :=
  base ≤ R ∧ (∃ f, w.rowIs R 75 7 f ∧ f 0 = .int .i64 c.left ∧ f 1 = .int .i64 c.right ∧ f 2 = .int .i64 c.bell ∧ f 3 = .int .i64 s.at_ ∧ f 4 = .bool s.free ∧ f 5 = .int .i64 s.bells ∧ f 6 = L) ∧ w.ownsRow base 41 2 L s.out.length (s.out.flatMap StruckD.cells)

theorem owns_apart {w : World} {base R m : Nat} {T E : TypeId} {size n : Nat} {v : Value} {xs : List Value} {f : Nat → Value} (h : w.ownsRow base E size v n xs) (hr : w.rowIs R T m f) (hne : E ≠ T) : v.ownBlock ≠ some R := by
  obtain ⟨_, ⟨rfl, _⟩ | ⟨g, cap, cur, rfl, _, hg, _⟩⟩ := h
  · simp [Value.ownBlock]
  · obtain ⟨c, hc, _⟩ := hr
    simp only [Value.ownBlock]
    intro e
    cases e
    rw [hg] at hc
    cases hc
    exact hne rfl
theorem owns_block {w w' : World} {base : Nat} {E : TypeId} {size n : Nat} {v : Value} {xs : List Value} (h : w.ownsRow base E size v n xs) (hb : ∀ g, v.ownBlock = some g → w'.heap[g]? = w.heap[g]?) : w'.ownsRow base E size v n xs := by
  obtain ⟨hl, h | ⟨g, cap, cur, rfl, hb', hg, hh⟩⟩ := h
  · exact ⟨hl, .inl h⟩
  · exact ⟨hl, .inr ⟨g, cap, cur, rfl, hb', (hb g rfl).trans hg, hh⟩⟩
theorem owns_set {w : World} {base R m o : Nat} {T E : TypeId} {size n : Nat} {v u : Value} {xs : List Value} {f : Nat → Value} (h : w.ownsRow base E size v n xs) (hr : w.rowIs R T m f) (hne : E ≠ T) : (w.setCell ⟨R, o, none⟩ u).ownsRow base E size v n xs :=
  owns_block h fun g hg => Below.heap_setCell _ _ _ _ (fun e => owns_apart h hr hne (by rw [hg, e]))
theorem owns_below {w w' : World} {base : Nat} {E : TypeId} {size n : Nat} {v : Value} {xs : List Value} (h : w.ownsRow base E size v n xs) (hb : Below w.heap.size w w') : w'.ownsRow base E size v n xs := by
  refine owns_block h fun g hg => hb.block g ?_
  obtain ⟨_, ⟨rfl, _⟩ | ⟨g', cap, cur, rfl, _, hg', _⟩⟩ := h
  · cases hg
  · cases hg
    exact (Array.getElem?_eq_some_iff.1 hg').1

section
variable {w w' : World} {base R : Nat} {c : CarriageD} {s : StD} {L : Value}
theorem Mach.drewN (h : Mach w base R c s L) (n : Nat) : Mach (w.drewN n) base R c s L := h
theorem Mach.lt (h : Mach w base R c s L) : R < w.heap.size := let ⟨_, ⟨_, hr, _⟩, _⟩ := h; hr.lt
theorem Mach.below (h : Mach w base R c s L) (hb : Below w.heap.size w w') : Mach w' base R c s L := by
  obtain ⟨h1, ⟨f, hr, hf⟩, ho⟩ := h
  exact ⟨h1, ⟨f, hr.of_block (hb.block R hr.lt), hf⟩, owns_below ho hb⟩
theorem Mach.setAt (h : Mach w base R c s L) (a : Int) : Mach (w.setCell ⟨R, 3, none⟩ (.int .i64 a)) base R c ⟨a, s.free, s.bells, s.out⟩ L := by
  obtain ⟨h1, ⟨f, hr, f0, f1, f2, f3, f4, f5, f6⟩, ho⟩ := h
  exact ⟨h1, ⟨_, hr.set 3 _, f0, f1, f2, rfl, f4, f5, f6⟩, owns_set ho hr (by decide)⟩
theorem Mach.setFree (h : Mach w base R c s L) (a : Bool) : Mach (w.setCell ⟨R, 4, none⟩ (.bool a)) base R c ⟨s.at_, a, s.bells, s.out⟩ L := by
  obtain ⟨h1, ⟨f, hr, f0, f1, f2, f3, f4, f5, f6⟩, ho⟩ := h
  exact ⟨h1, ⟨_, hr.set 4 _, f0, f1, f2, f3, rfl, f5, f6⟩, owns_set ho hr (by decide)⟩
theorem Mach.setBells (h : Mach w base R c s L) (a : Nat) (v : Int) (hv : v = (a : Int)) : Mach (w.setCell ⟨R, 5, none⟩ (.int .i64 v)) base R c ⟨s.at_, s.free, a, s.out⟩ L := by
  subst hv
  obtain ⟨h1, ⟨f, hr, f0, f1, f2, f3, f4, f5, f6⟩, ho⟩ := h
  exact ⟨h1, ⟨_, hr.set 5 _, f0, f1, f2, f3, f4, rfl, f6⟩, owns_set ho hr (by decide)⟩
theorem Mach.setList (h : Mach w base R c s L) {L' : Value} {x : StruckD} (hb : w.grownBy w' L.ownBlock) (ho' : w'.ownsRow base 41 2 L' (s.out.length + 1) (s.out.flatMap StruckD.cells ++ x.cells)) :
    Mach (w'.setCell ⟨R, 6, none⟩ L') base R c ⟨s.at_, s.free, s.bells, s.out ++ [x]⟩ L' := by
  obtain ⟨h1, ⟨f, hr, f0, f1, f2, f3, f4, f5, f6⟩, ho⟩ := h
  have hr' : w'.rowIs R 75 7 f := hr.of_block (hb.block R hr.lt (owns_apart ho hr (by decide)).symm)
  refine ⟨h1, ⟨_, hr'.set 6 _, f0, f1, f2, f3, f4, f5, rfl⟩, ?_⟩
  have h2 := owns_set (o := 6) (u := L') ho' hr' (by decide)
  simpa using h2
/-- The machine's cells. -/
theorem Mach.cells (h : Mach w base R c s L) : w.cell? ⟨R, 0, none⟩ = some (.int .i64 c.left) ∧ w.cell? ⟨R, 1, none⟩ = some (.int .i64 c.right) ∧ w.cell? ⟨R, 2, none⟩ = some (.int .i64 c.bell) ∧ w.cell? ⟨R, 3, none⟩ = some (.int .i64 s.at_) ∧ w.cell? ⟨R, 4, none⟩ = some (.bool s.free) ∧ w.cell? ⟨R, 5, none⟩ = some (.int .i64 s.bells) ∧ w.cell? ⟨R, 6, none⟩ = some L := by
  obtain ⟨h1, ⟨f, hr, f0, f1, f2, f3, f4, f5, f6⟩, ho⟩ := h
  refine ⟨?_, ?_, ?_, ?_, ?_, ?_, ?_⟩
  · rw [← f0]; exact hr.cell (by omega)
  · rw [← f1]; exact hr.cell (by omega)
  · rw [← f2]; exact hr.cell (by omega)
  · rw [← f3]; exact hr.cell (by omega)
  · rw [← f4]; exact hr.cell (by omega)
  · rw [← f5]; exact hr.cell (by omega)
  · rw [← f6]; exact hr.cell (by omega)
theorem Mach.frozen (h : Mach w base R c s L) (o : Nat) : w.frozen? ⟨R, o, none⟩ = false := let ⟨_, ⟨_, hr, _⟩, _⟩ := h; hr.frozen o
theorem Mach.owns (h : Mach w base R c s L) : w.ownsRow base 41 2 L s.out.length (s.out.flatMap StruckD.cells) := h.2.2
theorem Mach.base_le (h : Mach w base R c s L) : base ≤ R := h.1
end
theorem step_spec (k : Int) {v : Int} (h : stepOf k = v) (w : World) : Calls Try.prog 44 #[.int .i64 k] w fun e w' => e = .returned (.int .i64 v) ∧ w = w' := by
  by_cases h0 : k = 0
  · have hr : Hid (v = 2) := Lib.hid (by rw [← h]; simp [stepOf, h0])
    subst h0
    clear h
    go_enter Try.func44, Try.ntmps44
    go_wp2
    go_ret
    exact ⟨ret_i64 hr.out.symm, rfl⟩
  · by_cases h1 : k = 1
    · have hr : Hid (v = 2) := Lib.hid (by rw [← h]; simp [stepOf, h1])
      subst h1
      clear h
      go_enter Try.func44, Try.ntmps44
      go_wp2
      go_ret
      exact ⟨ret_i64 hr.out.symm, rfl⟩
    · by_cases h3 : k = 3
      · have hr : Hid (v = 1) := Lib.hid (by rw [← h]; simp [stepOf, h3])
        subst h3
        clear h
        go_enter Try.func44, Try.ntmps44
        go_wp2
        go_ret
        exact ⟨ret_i64 hr.out.symm, rfl⟩
      · have hr : Hid (v = 0) := Lib.hid (by rw [← h]; simp [stepOf, h0, h1, h3])
        have g0 : (k == 0) = false := by simpa using h0
        have g1 : (k == 1) = false := by simpa using h1
        have g3 : (k == 3) = false := by simpa using h3
        clear h h0 h1 h3
        go_enter Try.func44, Try.ntmps44
        go_wp2
        go_ret
        exact ⟨ret_i64 hr.out.symm, rfl⟩
theorem max0_spec (a b : Int) (w : World) : Calls Try.prog 45 #[.int .i64 a, .int .i64 b] w fun e w' => e = .returned (.int .i64 (max a b)) ∧ w = w' := by
  by_cases hn : b < a
  · have hres : Hid (max a b = a) := Lib.hid (by omega)
    go_enter Try.func45, Try.ntmps45
    go_wp2
    go_ret
    exact ⟨ret_i64 hres.out.symm, rfl⟩
  · have hres : Hid (max a b = b) := Lib.hid (by omega)
    go_enter Try.func45, Try.ntmps45
    go_wp2
    go_ret
    exact ⟨ret_i64 hres.out.symm, rfl⟩
end Go.Proofs.Ytphhpmnigchooaa
