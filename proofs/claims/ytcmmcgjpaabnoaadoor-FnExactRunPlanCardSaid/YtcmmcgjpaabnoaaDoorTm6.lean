/- Moves of the carriage: the model's PlanMoves. -/
import Derived.Test.YtcmmcgjpaabnoaaDoorTm4
namespace Go.Proofs.YtcmmcgjpaabnoaaDoor
open Go.RowKit Go.ChangeShapes Go.WideShapes Go.Deep
set_option linter.unusedVariables false
set_option linter.unusedSimpArgs false

theorem u8_eq11 {a b : UInt8} (h : a = b) : ((a.toNat : Int) == (b.toNat : Int)) = true ∧ (a.toNat == b.toNat) = true := by subst h; simp
theorem u8_ne11 {a b : UInt8} (h : a ≠ b) : ((a.toNat : Int) == (b.toNat : Int)) = false ∧ (a.toNat == b.toNat) = false := by
  have : a.toNat ≠ b.toNat := fun hh => h (UInt8.toNat_inj.1 hh)
  exact ⟨beq_eq_false_iff_ne.2 (by omega), beq_eq_false_iff_ne.2 this⟩
/-- Is the byte in the text? -/
def hasByte (s : ByteArray) (c : UInt8) : Prop := c ∈ s.data.toList
/-- Is it a move? -/
def mvQ (c : UInt8) : Bool := decide (c.toNat = 35) || (decide (c.toNat = 60) || decide (c.toNat = 62))
def letQ (c : UInt8) : Bool := decide (33 ≤ c.toNat) && decide (c.toNat ≤ 126)
theorem mvQ_mem (c : UInt8) : hasByte ⟨#[35, 60, 62]⟩ c ↔ mvQ c = true := by
  show c ∈ (⟨#[35, 60, 62]⟩ : ByteArray).data.toList ↔ mvQ c = true
  have hb : ∀ b : UInt8, ∀ n, n < 256 → (c = UInt8.ofNat n ↔ c.toNat = n) := fun _ n hn => ⟨fun h => by rw [h]; simp; omega, fun h => by rw [← h]; simp⟩
  simp only [mvQ, Bool.or_eq_true, decide_eq_true_eq, List.mem_cons, List.not_mem_nil, or_false]
  rw [← hb c 35 (by omega), ← hb c 60 (by omega), ← hb c 62 (by omega)]
  exact Iff.rfl
/-- The number of moves of what is left of a plan. -/
def pmF : List UInt8 → Option Nat
  | [] => some 0
  | [m] => if m.toNat = 39 then none else if mvQ m = true then some 1 else none
  | m :: c :: r => if m.toNat = 39 then (if letQ c = true then pmF r else none) else if mvQ m = true then (pmF (c :: r)).map (· + 1) else none
def pmR (s : ByteArray) : Int × Int := if 200 < s.size then (0, 7) else match pmF s.data.toList with | some n => ((n : Int), 0) | none => (0, 7)
theorem pm_move {l : List UInt8} {k : Nat} {m : UInt8} (h : l[k]? = some m) (h39 : ¬ m.toNat = 39) : pmF (l.drop k) = if mvQ m = true then (pmF (l.drop (k + 1))).map (· + 1) else none := by
  obtain ⟨h1, rfl⟩ := List.getElem?_eq_some_iff.1 h
  rw [List.drop_eq_getElem_cons h1]
  cases hd : l.drop (k + 1) with
  | nil => simp only [pmF, if_neg h39]; rfl
  | cons c r => rw [pmF, if_neg h39]
theorem pm_end {l : List UInt8} {k : Nat} {m : UInt8} (h : l[k]? = some m) (h39 : m.toNat = 39) (hk : l.length = k + 1) : pmF (l.drop k) = none := by
  obtain ⟨h1, rfl⟩ := List.getElem?_eq_some_iff.1 h
  rw [List.drop_eq_getElem_cons h1, List.drop_of_length_le (by omega), pmF, if_pos h39]
theorem pm_letter {l : List UInt8} {k : Nat} {m c : UInt8} (h : l[k]? = some m) (h39 : m.toNat = 39) (hc : l[k + 1]? = some c) : pmF (l.drop k) = if letQ c = true then pmF (l.drop (k + 2)) else none := by
  obtain ⟨h1, rfl⟩ := List.getElem?_eq_some_iff.1 h
  obtain ⟨h2, rfl⟩ := List.getElem?_eq_some_iff.1 hc
  rw [List.drop_eq_getElem_cons h1, List.drop_eq_getElem_cons h2, pmF, if_pos h39]
end Go.Proofs.YtcmmcgjpaabnoaaDoor
