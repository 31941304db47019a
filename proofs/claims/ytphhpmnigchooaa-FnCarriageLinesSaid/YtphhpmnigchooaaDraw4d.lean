/- What stands on a line that is drawn: the state that is carried, and plain data. -/
import Derived.Test.YtphhpmnigchooaaDraw4a
import Derived.Test.YtphhpmnigchooaaStruckS
import Derived.Test.YtphhpmnigchooaaCar0
namespace Go.Proofs.Ytphhpmnigchooaa
open Go.RowKit
set_option linter.unusedVariables false
set_option linter.unusedSimpArgs false

/-- A source at r, a carriage at Q, an empty one at Z below both; nothing below Z has been written. -/
structure DS (w : World) (Z r Q : Nat) (b : CarriageD) (t : Nat) (W : World) : Prop where
  src : SrcAt W r t
  cz : CRow W Z ⟨0, 0, 0⟩
  cq : CRow W Q b
  bel : Below Z w W
  lt1 : Z < r
  lt2 : r < Q
section
variable {w : World} {Z r Q : Nat} {b : CarriageD} {t t' : Nat} {W W' : World}
theorem DS.ltQ (h : DS w Z r Q b t W) : Q < W.heap.size := h.cq.lt
theorem DS.mono (h : DS w Z r Q b t W) (ht : t ≤ t') : DS w Z r Q b t' W := ⟨h.src.mono ht, h.cz, h.cq, h.bel, h.lt1, h.lt2⟩
theorem DS.pick (h : DS w Z r Q b t W) (hs : SrcAt W' r t') (hg : W.grownBy W' (some r)) : DS w Z r Q b t' W' := by
  have h1 := h.lt1
  have h2 := h.lt2
  have h3 := h.ltQ
  exact ⟨hs, h.cz.grown hg (fun e => by cases e; omega), h.cq.grown hg (fun e => by cases e; omega), ⟨hg.os.trans h.bel.os, hg.tape.trans h.bel.tape, hg.output.trans h.bel.output, Nat.le_trans h.bel.size hg.size, fun k hk => (hg.block k (by omega) (fun e => by cases e; omega)).trans (h.bel.block k hk)⟩, h1, h2⟩
theorem DS.youngO {row : Option Nat} (h : DS w Z r Q b t W) (hg : W.grownBy W' row) (hq : ∀ q, row = some q → Q < q) : DS w Z r Q b t W' := by
  have h1 := h.lt1
  have h2 := h.lt2
  have h3 := h.ltQ
  exact ⟨h.src.grownO hg (fun q e => by have := hq q e; omega), h.cz.grown hg (fun e => by have := hq _ e; omega), h.cq.grown hg (fun e => by have := hq _ e; omega), ⟨hg.os.trans h.bel.os, hg.tape.trans h.bel.tape, hg.output.trans h.bel.output, Nat.le_trans h.bel.size hg.size, fun k hk => (hg.block k (by omega) (fun e => by have := hq _ e.symm; omega)).trans (h.bel.block k hk)⟩, h1, h2⟩
theorem DS.below (h : DS w Z r Q b t W) (hb : Below W.heap.size W W') : DS w Z r Q b t W' := h.youngO (grown_below hb none) (fun q e => by cases e)
theorem DS.drawn (h : DS w Z r Q b t W) (hs : SrcAt W' r t') (hd : Drawn r W.heap.size W W') : DS w Z r Q b t' W' := by
  have h1 := h.lt1
  have h2 := h.lt2
  have h3 := h.ltQ
  exact ⟨hs, h.cz.block (hd.block Z (by omega) (by omega)), h.cq.block (hd.block Q (by omega) (by omega)), ⟨hd.os.trans h.bel.os, hd.tape.trans h.bel.tape, hd.output.trans h.bel.output, Nat.le_trans h.bel.size hd.size, fun k hk => (hd.block k (by omega) (by omega)).trans (h.bel.block k hk)⟩, h1, h2⟩
end
def strD (x : StruckD) : Prop := (Lit.int .i64 x.place).wf = true ∧ x.letter.size ≤ 2
theorem strD.good {x : StruckD} (h : strD x) : x.good := ⟨h.1, by have := h.2; unfold maxLen; omega⟩
theorem run_strD {c : CarriageD} (hc : 0 ≤ c.left ∧ c.left ≤ 300) : ∀ (l : List ActD) (s : StD), (0 ≤ s.at_ ∧ s.at_ ≤ 300) → (∀ x ∈ l, actD x) → (∀ x ∈ s.out, strD x) → (∀ x ∈ (runS c s l).1.out, strD x) ∧ (runS c s l).1.out.length ≤ s.out.length + l.length
  | [], s, hs, hl, ho => ⟨ho, by simp [runS]⟩
  | a :: l, s, hs, hl, ho => by
    have hl' := fun x hx => hl x (List.mem_cons_of_mem _ hx)
    have ha := hl a (List.mem_cons_self ..)
    have hst : 0 ≤ stepOf a.kind := by unfold stepOf; repeat' split
                                       all_goals omega
    rw [runS]
    cases hx : actS c s a with
    | none => exact ⟨ho, by simp only; omega⟩
    | some s' =>
      simp only
      have hn : (0 ≤ s'.at_ ∧ s'.at_ ≤ 300) ∧ (∀ x ∈ s'.out, strD x) ∧ s'.out.length ≤ s.out.length + 1 := by
        unfold actS at hx
        split at hx
        · split at hx
          · cases hx
          · rename_i hq
            cases hx
            refine ⟨by simp only; omega, fun x hx => ?_, ?_⟩
            · simp only at hx
              split at hx
              · rcases List.mem_append.1 hx with hx | hx
                · exact ho x hx
                · rw [List.mem_singleton] at hx
                  subst hx
                  exact ⟨wf64 (by simp only; omega), ha.2⟩
              · exact ho x hx
            · dsimp only
              split
              · simp
              · omega
        · split at hx
          · cases hx
            exact ⟨by simp only; omega, ho, by simp only; omega⟩
          · split at hx
            · cases hx
              exact ⟨hs, ho, by simp only; omega⟩
            · cases hx
              exact ⟨hc, ho, by simp only; omega⟩
      obtain ⟨r1, r2⟩ := run_strD hc l s' hn.1 hl' hn.2.1
      exact ⟨r1, by rw [List.length_cons]; omega⟩
theorem typed_strD {c : CarriageD} {l : List ActD} (hl : ∀ x ∈ l, actD x) : (∀ x ∈ (typed c l).1, strD x) ∧ (typed c l).1.length ≤ l.length := by
  unfold typed
  split
  · rename_i h
    have hcr := carOk_iff.1 h.1
    split
    · exact ⟨fun x hx => (by cases hx), Nat.zero_le _⟩
    · have hq : 0 ≤ c.left ∧ c.left ≤ 300 := by omega
      have h2 := run_strD hq l (startS c) hq hl (fun x hx => (by cases hx))
      exact ⟨h2.1, by have := h2.2; simpa [startS, ran] using this⟩
  · exact ⟨fun x hx => (by cases hx), Nat.zero_le _⟩
theorem st_snoc4 (l : List StruckD) (x : StruckD) : (l ++ [x]).flatMap StruckD.cells = l.flatMap StruckD.cells ++ [.int .i64 x.place, .string x.letter] := by simp [StruckD.cells]
theorem add_strD {l : List StruckD} (h : ∀ x ∈ l, strD x) {y : StruckD} (hy : strD y) : ∀ x ∈ l ++ [y], strD x := fun x hx => by
  rcases List.mem_append.1 hx with hx | hx
  · exact h x hx
  · rw [List.mem_singleton] at hx; exact hx ▸ hy
theorem Try.infoStruck4 : (Try.prog.info? 41).map (fun i => (i.zero, i.size, i.bytes)) = some (some (.agg #[.int .i64 0, .string ⟨#[]⟩]), 2, 24) := by kernel_rfl
theorem empty_row (w : World) (N : Nat) (E : TypeId) (hN : N ≤ w.heap.size) : (w.alloc (.cells #[] E)).ownsRow N E 2 (.slice (some ⟨w.heap.size, 0, none⟩) 0 0) 0 [] := by
  have := World.ownsRow_lit (w := w) (e := E) (base := N) (size := 2) #[] 0 hN (by simp [maxLen]) (by simp)
  simpa using this
/-- What stands on a line that has been drawn. -/
def DSOut (Z : Nat) (w : World) (e : Ending) (w' : World) : Prop := ∃ b : CarriageD, ∃ A n c, ∃ xs : List StruckD, e = .returned (.tuple #[.agg #[.int .i64 b.left, .int .i64 b.right, .int .i64 b.bell], .slice A n c]) ∧ b.good ∧ n ≤ 202 ∧ n ≤ c ∧ w'.ownsRow (Z + 1) 41 2 (.slice A n c) n (xs.flatMap StruckD.cells) ∧ xs.length = n ∧ (∀ x ∈ xs, strD x) ∧ Below Z w w'
end Go.Proofs.Ytphhpmnigchooaa
