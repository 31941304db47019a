/- Carriages, acts and what stands on a line, as plain data: what is valid, and what acts do. -/
import Derived.Test.YtphhpmnigchooaaCarriageD
import Derived.Test.YtphhpmnigchooaaActS
import Derived.Test.YtphhpmnigchooaaStruckS
import Derived.Test.YtphhpmnigchooaaLet0
namespace Go.Proofs.Ytphhpmnigchooaa
set_option linter.unusedVariables false
set_option linter.unusedSimpArgs false

def carOk (c : CarriageD) : Bool := isIn c.left 0 300 && (isIn c.right c.left 300 && (decide (20 ≤ c.right - c.left) && isIn c.bell c.left c.right))
theorem carOk_iff {c : CarriageD} : carOk c = true ↔ (0 ≤ c.left ∧ c.left ≤ 300) ∧ (c.left ≤ c.right ∧ c.right ≤ 300) ∧ 20 ≤ c.right - c.left ∧ (c.left ≤ c.bell ∧ c.bell ≤ c.right) := by simp [carOk, isIn_iff]
def actOk (a : ActD) : Bool := if a.kind = 0 then isLet a.letter else isIn a.kind 1 5 && decide (a.letter.size = 0)
def actsOk (l : List ActD) : Bool := l.all actOk && decide (l.length ≤ 200)
def struckOk (s : StruckD) : Bool := isIn s.place 0 300 && isLet s.letter
def lineOk (l : List StruckD) : Bool := l.all struckOk && decide (l.length ≤ 200)

theorem all_drop {α : Type} {p : α → Bool} {l : List α} {k : Nat} {x : α} (h : l[k]? = some x) : (l.drop k).all p = (p x && (l.drop (k + 1)).all p) := by
  obtain ⟨h1, rfl⟩ := List.getElem?_eq_some_iff.1 h
  rw [List.drop_eq_getElem_cons h1, List.all_cons]
theorem all_end {α : Type} {p : α → Bool} {l : List α} {k : Nat} (h : l.length = k) : (l.drop k).all p = true := by
  rw [List.drop_of_length_le (by omega)]
  rfl
theorem isLet_size1 {s : ByteArray} (h : isLet s = true) : s.size = 1 := by
  by_cases h1 : s.size = 1
  · exact h1
  · rw [isLet_not h1] at h; cases h

/-- The width of an act that moves the carriage on. -/
def stepOf (k : Int) : Int := if k = 0 ∨ k = 1 then 2 else if k = 3 then 1 else 0
/-- The carriage, while a typist types. -/
structure StD where
  at_ : Int
  free : Bool
  bells : Nat
  out : List StruckD
/-- What an act does; none: it is stopped. -/
def actS (c : CarriageD) (s : StD) (a : ActD) : Option StD :=
  if a.kind = 0 ∨ a.kind = 1 ∨ a.kind = 3 then
    (if 300 < s.at_ + stepOf a.kind ∨ (s.free = false ∧ c.right < s.at_ + stepOf a.kind) then none
     else some ⟨s.at_ + stepOf a.kind, s.free, s.bells + (if s.at_ < c.bell ∧ c.bell ≤ s.at_ + stepOf a.kind then 1 else 0), if a.kind = 0 then s.out ++ [⟨s.at_, a.letter⟩] else s.out⟩)
  else if a.kind = 2 then some ⟨max 0 (s.at_ - 2), s.free, s.bells, s.out⟩
  else if a.kind = 4 then some ⟨s.at_, true, s.bells, s.out⟩
  else some ⟨c.left, false, s.bells, s.out⟩
/-- The state behind the acts up to one that is stopped, and how many are done. -/
def runS (c : CarriageD) : StD → List ActD → StD × Nat
  | s, [] => (s, 0)
  | s, a :: l => match actS c s a with
    | none => (s, 0)
    | some s' => ((runS c s' l).1, (runS c s' l).2 + 1)
def startS (c : CarriageD) : StD := ⟨c.left, false, 0, []⟩
def ran (c : CarriageD) (l : List ActD) : StD × Nat := runS c (startS c) l

theorem runS_go {c : CarriageD} {s s' : StD} {l : List ActD} {k : Nat} {a : ActD} (ha : l[k]? = some a) (h : actS c s a = some s') : runS c s (l.drop k) = ((runS c s' (l.drop (k + 1))).1, (runS c s' (l.drop (k + 1))).2 + 1) := by
  obtain ⟨h1, rfl⟩ := List.getElem?_eq_some_iff.1 ha
  rw [List.drop_eq_getElem_cons h1, runS, h]
theorem runS_stop {c : CarriageD} {s : StD} {l : List ActD} {k : Nat} {a : ActD} (ha : l[k]? = some a) (h : actS c s a = none) : runS c s (l.drop k) = (s, 0) := by
  obtain ⟨h1, rfl⟩ := List.getElem?_eq_some_iff.1 ha
  rw [List.drop_eq_getElem_cons h1, runS, h]
theorem runS_end {c : CarriageD} {s : StD} {l : List ActD} {k : Nat} (h : l.length = k) : runS c s (l.drop k) = (s, 0) := by
  rw [List.drop_of_length_le (by omega)]
  rfl
theorem runS_le (c : CarriageD) : ∀ (l : List ActD) (s : StD), (runS c s l).2 ≤ l.length
  | [], s => Nat.le_refl _
  | a :: l, s => by
    unfold runS
    split
    · simp
    · have := runS_le c l
      simp only [List.length_cons]
      exact Nat.succ_le_succ (this _)

def codeOfActs (c : CarriageD) (l : List ActD) : Bool := carOk c && actsOk l
/-- What TypeActs, BellsOf and LockedAt return. -/
def typed (c : CarriageD) (l : List ActD) : List StruckD × Int × Int :=
  if carOk c = true ∧ actsOk l = true then (if (ran c l).2 < l.length then ([], 0, 6) else ((ran c l).1.out, (ran c l).1.at_, 0)) else ([], 0, 1)
def bellsR (c : CarriageD) (l : List ActD) : Int × Int := if carOk c = true ∧ actsOk l = true then ((ran c l).1.bells, 0) else (0, 1)
def lockedR (c : CarriageD) (l : List ActD) : Int × Int :=
  if carOk c = true ∧ actsOk l = true then (if (ran c l).2 < l.length then ((ran c l).2, 0) else (0, 3)) else (0, 1)
def shiftedR (c : CarriageD) (l : List StruckD) : Bool × Int :=
  if carOk c = true ∧ lineOk l = true then (l.any fun s => decide ((s.place - c.left) % 2 ≠ 0), 0) else (false, 1)
end Go.Proofs.Ytphhpmnigchooaa
