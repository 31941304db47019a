/- A Over as data: what the law's own helpers on one Over do. -/
import Derived.Test.YtomnnhmhmehdjaaProg
import Derived.Test.YtomnnhmhmehdjaaRows0
import Derived.Below
import Derived.Lib.Hide
import Derived.WalkKit
import Derived.ProofKit
import Derived.Outline
import Derived.LoopTactic
namespace Go.Proofs.Ytomnnhmhmehdjaa
open Go.RowKit
set_option linter.unusedVariables false
set_option linter.unusedSimpArgs false

structure OverD where
  under : ByteArray
  top : ByteArray
  seen : ByteArray
def OverD.cells (p : OverD) : List Value := [.string p.under, .string p.top, .string p.seen]
/-- What a reading gives of it: numbers fit, texts fit into memory. -/
def OverD.good (p : OverD) : Prop := p.under.size ≤ maxLen ∧ p.top.size ≤ maxLen ∧ p.seen.size ≤ maxLen
def OverD.small (p : OverD) : Prop := p.under.size ≤ 1048576 ∧ p.top.size ≤ 1048576 ∧ p.seen.size ≤ 1048576

theorem toOver_any (p : OverD) (w : World) :
    Calls Try.prog 45 #[.agg #[.string p.under, .string p.top, .string p.seen]] w fun e w' => e = .returned (.agg #[.string p.under, .string p.top, .string p.seen]) ∧ Below w.heap.size w w' := by
  obtain ⟨under, top, seen⟩ := p
  go_enter Try.func45, Try.ntmps45
  go_wp2
  refine bodyPost_ret (v := .agg #[.string under, .string top, .string seen]) (by simp [results, Try.results45, go_sem]) rfl ⟨rfl, ?_⟩
  exact (((Below.refl _ w).alloc (Nat.le_refl _) _).alloc (by simp) _).alloc (by simp; omega) _

def OverD.eqB (a b : OverD) : Bool := (a.under.toList == b.under.toList) && (a.top.toList == b.top.toList) && (a.seen.toList == b.seen.toList)
theorem OverD.eqB_refl (a : OverD) : a.eqB a = true := by simp [OverD.eqB]
theorem eqOver_is {a b : OverD} {v : Bool} (h : a.eqB b = v) (w : World) :
    Calls Try.prog 49 #[.agg #[.string a.under, .string a.top, .string a.seen], .agg #[.string b.under, .string b.top, .string b.seen]] w fun e w' => e = .returned (.bool v) ∧ Below w.heap.size w w' := by
  subst h
  obtain ⟨a0, a1, a2⟩ := a
  obtain ⟨b0, b1, b2⟩ := b
  by_cases h0 : (a0.toList == b0.toList) = true
  · by_cases h1 : (a1.toList == b1.toList) = true
    · by_cases h2 : (a2.toList == b2.toList) = true
      · go_enter Try.func49, Try.ntmps49
        go_wp2
        go_ret
        exact ⟨by simp [OverD.eqB, h0, h1, h2], ((Below.refl _ w).alloc (Nat.le_refl _) _).alloc (by simp) _⟩
      · have g2 : (a2.toList == b2.toList) = false := by simpa using h2
        go_enter Try.func49, Try.ntmps49
        go_wp2
        go_ret
        exact ⟨by simp [OverD.eqB, h0, h1, h2], ((Below.refl _ w).alloc (Nat.le_refl _) _).alloc (by simp) _⟩
    · have g1 : (a1.toList == b1.toList) = false := by simpa using h1
      go_enter Try.func49, Try.ntmps49
      go_wp2
      go_ret
      exact ⟨by simp [OverD.eqB, h0, h1], ((Below.refl _ w).alloc (Nat.le_refl _) _).alloc (by simp) _⟩
  · have g0 : (a0.toList == b0.toList) = false := by simpa using h0
    go_enter Try.func49, Try.ntmps49
    go_wp2
    go_ret
    exact ⟨by simp [OverD.eqB, h0], ((Below.refl _ w).alloc (Nat.le_refl _) _).alloc (by simp) _⟩

/-- What is left of l. -/
def szOverI (l : Int) (x : OverD) : Int := if l - (x.under.size : Int) < 0 then -1 else if l - (x.under.size : Int) - (x.top.size : Int) < 0 then -1 else if l - (x.under.size : Int) - (x.top.size : Int) - (x.seen.size : Int) < 0 then -1 else l - (x.under.size : Int) - (x.top.size : Int) - (x.seen.size : Int)
theorem szOverI_le (l : Int) (x : OverD) (h : 0 ≤ l) : -1 ≤ szOverI l x ∧ szOverI l x ≤ l := by
  unfold szOverI
  repeat' split
  all_goals omega
theorem szOverI_small (l : Int) (x : OverD) (h : l ≤ 1048576) (h0 : 0 ≤ szOverI l x) : x.small := by
  unfold szOverI at h0
  unfold OverD.small
  repeat' split at h0
  all_goals omega
set_option maxHeartbeats 800000 in
theorem szOver_any (x : OverD) (l : Int) (w : World) (h0 : 0 ≤ l) (h1 : l ≤ 1048576) (hx : x.good) :
    Calls Try.prog 43 #[.agg #[.string x.under, .string x.top, .string x.seen], .int .i64 l] w fun e w' => e = .returned (.int .i64 (szOverI l x)) ∧ Below w.heap.size w w' := by
  obtain ⟨under, top, seen⟩ := x
  unfold OverD.good maxLen at hx
  simp only at hx
  obtain ⟨hs_under, hs_top, hs_seen⟩ := hx
  by_cases c0 : l - (under.size : Int) < 0
  · have hr : Hid (szOverI l ⟨under, top, seen⟩ = -1) := Lib.hid (by unfold szOverI; simp only; rw [if_pos c0])
    go_enter Try.func43, Try.ntmps43
    go_wp2
    go_ret
    exact ⟨ret_i64 hr.out.symm, (Below.refl _ w).alloc (Nat.le_refl _) _⟩
  · by_cases c1 : l - (under.size : Int) - (top.size : Int) < 0
    · have hr : Hid (szOverI l ⟨under, top, seen⟩ = -1) := Lib.hid (by unfold szOverI; simp only; rw [if_neg c0]; rw [if_pos c1])
      go_enter Try.func43, Try.ntmps43
      go_wp2
      go_ret
      exact ⟨ret_i64 hr.out.symm, (Below.refl _ w).alloc (Nat.le_refl _) _⟩
    · by_cases c2 : l - (under.size : Int) - (top.size : Int) - (seen.size : Int) < 0
      · have hr : Hid (szOverI l ⟨under, top, seen⟩ = -1) := Lib.hid (by unfold szOverI; simp only; rw [if_neg c0]; rw [if_neg c1]; rw [if_pos c2])
        go_enter Try.func43, Try.ntmps43
        go_wp2
        go_ret
        exact ⟨ret_i64 hr.out.symm, (Below.refl _ w).alloc (Nat.le_refl _) _⟩
      · have hr : Hid (szOverI l ⟨under, top, seen⟩ = l - (under.size : Int) - (top.size : Int) - (seen.size : Int)) := Lib.hid (by unfold szOverI; simp only; rw [if_neg c0]; rw [if_neg c1]; rw [if_neg c2])
        go_enter Try.func43, Try.ntmps43
        go_wp2
        go_ret
        exact ⟨ret_i64 hr.out.symm, (Below.refl _ w).alloc (Nat.le_refl _) _⟩
end Go.Proofs.Ytomnnhmhmehdjaa
