/- A Accent as data: what the law's own helpers on one Accent do. -/
import Derived.Test.YtndodlfmjdgpcaaProg
import Derived.Test.YtndodlfmjdgpcaaRows0
import Derived.Below
import Derived.Lib.Hide
import Derived.WalkKit
import Derived.ProofKit
import Derived.Outline
import Derived.LoopTactic
namespace Go.Proofs.Ytndodlfmjdgpcaa
open Go.RowKit
set_option linter.unusedVariables false
set_option linter.unusedSimpArgs false

structure AccentD where
  mark : ByteArray
  letter : ByteArray
  made : ByteArray
def AccentD.cells (p : AccentD) : List Value := [.string p.mark, .string p.letter, .string p.made]
/-- What a reading gives of it: numbers fit, texts fit into memory. -/
def AccentD.good (p : AccentD) : Prop := p.mark.size ≤ maxLen ∧ p.letter.size ≤ maxLen ∧ p.made.size ≤ maxLen
def AccentD.small (p : AccentD) : Prop := p.mark.size ≤ 1048576 ∧ p.letter.size ≤ 1048576 ∧ p.made.size ≤ 1048576

theorem toAccent_any (p : AccentD) (w : World) :
    Calls Try.prog 88 #[.agg #[.string p.mark, .string p.letter, .string p.made]] w fun e w' => e = .returned (.agg #[.string p.mark, .string p.letter, .string p.made]) ∧ Below w.heap.size w w' := by
  obtain ⟨mark, letter, made⟩ := p
  go_enter Try.func88, Try.ntmps88
  go_wp2
  refine bodyPost_ret (v := .agg #[.string mark, .string letter, .string made]) (by simp [results, Try.results88, go_sem]) rfl ⟨rfl, ?_⟩
  exact (((Below.refl _ w).alloc (Nat.le_refl _) _).alloc (by simp) _).alloc (by simp; omega) _

def AccentD.eqB (a b : AccentD) : Bool := (a.mark.toList == b.mark.toList) && (a.letter.toList == b.letter.toList) && (a.made.toList == b.made.toList)
theorem AccentD.eqB_refl (a : AccentD) : a.eqB a = true := by simp [AccentD.eqB]
theorem eqAccent_is {a b : AccentD} {v : Bool} (h : a.eqB b = v) (w : World) :
    Calls Try.prog 91 #[.agg #[.string a.mark, .string a.letter, .string a.made], .agg #[.string b.mark, .string b.letter, .string b.made]] w fun e w' => e = .returned (.bool v) ∧ Below w.heap.size w w' := by
  subst h
  obtain ⟨a0, a1, a2⟩ := a
  obtain ⟨b0, b1, b2⟩ := b
  by_cases h0 : (a0.toList == b0.toList) = true
  · by_cases h1 : (a1.toList == b1.toList) = true
    · by_cases h2 : (a2.toList == b2.toList) = true
      · go_enter Try.func91, Try.ntmps91
        go_wp2
        go_ret
        exact ⟨by simp [AccentD.eqB, h0, h1, h2], ((Below.refl _ w).alloc (Nat.le_refl _) _).alloc (by simp) _⟩
      · have g2 : (a2.toList == b2.toList) = false := by simpa using h2
        go_enter Try.func91, Try.ntmps91
        go_wp2
        go_ret
        exact ⟨by simp [AccentD.eqB, h0, h1, h2], ((Below.refl _ w).alloc (Nat.le_refl _) _).alloc (by simp) _⟩
    · have g1 : (a1.toList == b1.toList) = false := by simpa using h1
      go_enter Try.func91, Try.ntmps91
      go_wp2
      go_ret
      exact ⟨by simp [AccentD.eqB, h0, h1], ((Below.refl _ w).alloc (Nat.le_refl _) _).alloc (by simp) _⟩
  · have g0 : (a0.toList == b0.toList) = false := by simpa using h0
    go_enter Try.func91, Try.ntmps91
    go_wp2
    go_ret
    exact ⟨by simp [AccentD.eqB, h0], ((Below.refl _ w).alloc (Nat.le_refl _) _).alloc (by simp) _⟩

/-- What is left of l. -/
def szAccentI (l : Int) (x : AccentD) : Int := if l - (x.mark.size : Int) < 0 then -1 else if l - (x.mark.size : Int) - (x.letter.size : Int) < 0 then -1 else if l - (x.mark.size : Int) - (x.letter.size : Int) - (x.made.size : Int) < 0 then -1 else l - (x.mark.size : Int) - (x.letter.size : Int) - (x.made.size : Int)
theorem szAccentI_le (l : Int) (x : AccentD) (h : 0 ≤ l) : -1 ≤ szAccentI l x ∧ szAccentI l x ≤ l := by
  unfold szAccentI
  repeat' split
  all_goals omega
theorem szAccentI_small (l : Int) (x : AccentD) (h : l ≤ 1048576) (h0 : 0 ≤ szAccentI l x) : x.small := by
  unfold szAccentI at h0
  unfold AccentD.small
  repeat' split at h0
  all_goals omega
set_option maxHeartbeats 800000 in
theorem szAccent_any (x : AccentD) (l : Int) (w : World) (h0 : 0 ≤ l) (h1 : l ≤ 1048576) (hx : x.good) :
    Calls Try.prog 84 #[.agg #[.string x.mark, .string x.letter, .string x.made], .int .i64 l] w fun e w' => e = .returned (.int .i64 (szAccentI l x)) ∧ Below w.heap.size w w' := by
  obtain ⟨mark, letter, made⟩ := x
  unfold AccentD.good maxLen at hx
  simp only at hx
  obtain ⟨hs_mark, hs_letter, hs_made⟩ := hx
  by_cases c0 : l - (mark.size : Int) < 0
  · have hr : Hid (szAccentI l ⟨mark, letter, made⟩ = -1) := Lib.hid (by unfold szAccentI; simp only; rw [if_pos c0])
    go_enter Try.func84, Try.ntmps84
    go_wp2
    go_ret
    exact ⟨ret_i64 hr.out.symm, (Below.refl _ w).alloc (Nat.le_refl _) _⟩
  · by_cases c1 : l - (mark.size : Int) - (letter.size : Int) < 0
    · have hr : Hid (szAccentI l ⟨mark, letter, made⟩ = -1) := Lib.hid (by unfold szAccentI; simp only; rw [if_neg c0]; rw [if_pos c1])
      go_enter Try.func84, Try.ntmps84
      go_wp2
      go_ret
      exact ⟨ret_i64 hr.out.symm, (Below.refl _ w).alloc (Nat.le_refl _) _⟩
    · by_cases c2 : l - (mark.size : Int) - (letter.size : Int) - (made.size : Int) < 0
      · have hr : Hid (szAccentI l ⟨mark, letter, made⟩ = -1) := Lib.hid (by unfold szAccentI; simp only; rw [if_neg c0]; rw [if_neg c1]; rw [if_pos c2])
        go_enter Try.func84, Try.ntmps84
        go_wp2
        go_ret
        exact ⟨ret_i64 hr.out.symm, (Below.refl _ w).alloc (Nat.le_refl _) _⟩
      · have hr : Hid (szAccentI l ⟨mark, letter, made⟩ = l - (mark.size : Int) - (letter.size : Int) - (made.size : Int)) := Lib.hid (by unfold szAccentI; simp only; rw [if_neg c0]; rw [if_neg c1]; rw [if_neg c2])
        go_enter Try.func84, Try.ntmps84
        go_wp2
        go_ret
        exact ⟨ret_i64 hr.out.symm, (Below.refl _ w).alloc (Nat.le_refl _) _⟩
end Go.Proofs.Ytndodlfmjdgpcaa
