/- A Key as data: what the law's own helpers on one Key do. -/
import Derived.Test.YtndodlfmjdgpcaaProg
import Derived.Test.YtndodlfmjdgpcaaRows0
import Derived.Below
import Derived.Lib.Hide
import Derived.WalkKit
import Derived.ProofKit
import Derived.Outline
import Derived.LoopTactic
namespace Go.Proofs.Ytndodlfmjdgpcaa
open Go.RowKit
set_option linter.unusedVariables false
set_option linter.unusedSimpArgs false

structure KeyD where
  low : ByteArray
  high : ByteArray
  dead : Bool
def KeyD.cells (p : KeyD) : List Value := [.string p.low, .string p.high, .bool p.dead]
/-- What a reading gives of it: numbers fit, texts fit into memory. -/
def KeyD.good (p : KeyD) : Prop := p.low.size ≤ maxLen ∧ p.high.size ≤ maxLen
def KeyD.small (p : KeyD) : Prop := p.low.size ≤ 1048576 ∧ p.high.size ≤ 1048576

theorem toKey_any (p : KeyD) (w : World) :
    Calls Try.prog 87 #[.agg #[.string p.low, .string p.high, .bool p.dead]] w fun e w' => e = .returned (.agg #[.string p.low, .string p.high, .bool p.dead]) ∧ Below w.heap.size w w' := by
  obtain ⟨low, high, dead⟩ := p
  go_enter Try.func87, Try.ntmps87
  go_wp2
  refine bodyPost_ret (v := .agg #[.string low, .string high, .bool dead]) (by simp [results, Try.results87, go_sem]) rfl ⟨rfl, ?_⟩
  exact (((Below.refl _ w).alloc (Nat.le_refl _) _).alloc (by simp) _).alloc (by simp; omega) _

def KeyD.eqB (a b : KeyD) : Bool := (a.low.toList == b.low.toList) && (a.high.toList == b.high.toList) && (a.dead == b.dead)
theorem KeyD.eqB_refl (a : KeyD) : a.eqB a = true := by simp [KeyD.eqB]
theorem eqKey_is {a b : KeyD} {v : Bool} (h : a.eqB b = v) (w : World) :
    Calls Try.prog 90 #[.agg #[.string a.low, .string a.high, .bool a.dead], .agg #[.string b.low, .string b.high, .bool b.dead]] w fun e w' => e = .returned (.bool v) ∧ Below w.heap.size w w' := by
  subst h
  obtain ⟨a0, a1, a2⟩ := a
  obtain ⟨b0, b1, b2⟩ := b
  by_cases h0 : (a0.toList == b0.toList) = true
  · by_cases h1 : (a1.toList == b1.toList) = true
    · by_cases h2 : (a2 == b2) = true
      · go_enter Try.func90, Try.ntmps90
        go_wp2
        go_ret
        exact ⟨by simp [KeyD.eqB, h0, h1, h2], ((Below.refl _ w).alloc (Nat.le_refl _) _).alloc (by simp) _⟩
      · have g2 : (a2 == b2) = false := by simpa using h2
        go_enter Try.func90, Try.ntmps90
        go_wp2
        go_ret
        exact ⟨by simp [KeyD.eqB, h0, h1, h2], ((Below.refl _ w).alloc (Nat.le_refl _) _).alloc (by simp) _⟩
    · have g1 : (a1.toList == b1.toList) = false := by simpa using h1
      go_enter Try.func90, Try.ntmps90
      go_wp2
      go_ret
      exact ⟨by simp [KeyD.eqB, h0, h1], ((Below.refl _ w).alloc (Nat.le_refl _) _).alloc (by simp) _⟩
  · have g0 : (a0.toList == b0.toList) = false := by simpa using h0
    go_enter Try.func90, Try.ntmps90
    go_wp2
    go_ret
    exact ⟨by simp [KeyD.eqB, h0], ((Below.refl _ w).alloc (Nat.le_refl _) _).alloc (by simp) _⟩

/-- What is left of l. -/
def szKeyI (l : Int) (x : KeyD) : Int := if l - (x.low.size : Int) < 0 then -1 else if l - (x.low.size : Int) - (x.high.size : Int) < 0 then -1 else l - (x.low.size : Int) - (x.high.size : Int)
theorem szKeyI_le (l : Int) (x : KeyD) (h : 0 ≤ l) : -1 ≤ szKeyI l x ∧ szKeyI l x ≤ l := by
  unfold szKeyI
  repeat' split
  all_goals omega
theorem szKeyI_small (l : Int) (x : KeyD) (h : l ≤ 1048576) (h0 : 0 ≤ szKeyI l x) : x.small := by
  unfold szKeyI at h0
  unfold KeyD.small
  repeat' split at h0
  all_goals omega
set_option maxHeartbeats 800000 in
theorem szKey_any (x : KeyD) (l : Int) (w : World) (h0 : 0 ≤ l) (h1 : l ≤ 1048576) (hx : x.good) :
    Calls Try.prog 83 #[.agg #[.string x.low, .string x.high, .bool x.dead], .int .i64 l] w fun e w' => e = .returned (.int .i64 (szKeyI l x)) ∧ Below w.heap.size w w' := by
  obtain ⟨low, high, dead⟩ := x
  unfold KeyD.good maxLen at hx
  simp only at hx
  obtain ⟨hs_low, hs_high⟩ := hx
  by_cases c0 : l - (low.size : Int) < 0
  · have hr : Hid (szKeyI l ⟨low, high, dead⟩ = -1) := Lib.hid (by unfold szKeyI; simp only; rw [if_pos c0])
    go_enter Try.func83, Try.ntmps83
    go_wp2
    go_ret
    exact ⟨ret_i64 hr.out.symm, (Below.refl _ w).alloc (Nat.le_refl _) _⟩
  · by_cases c1 : l - (low.size : Int) - (high.size : Int) < 0
    · have hr : Hid (szKeyI l ⟨low, high, dead⟩ = -1) := Lib.hid (by unfold szKeyI; simp only; rw [if_neg c0]; rw [if_pos c1])
      go_enter Try.func83, Try.ntmps83
      go_wp2
      go_ret
      exact ⟨ret_i64 hr.out.symm, (Below.refl _ w).alloc (Nat.le_refl _) _⟩
    · have hr : Hid (szKeyI l ⟨low, high, dead⟩ = l - (low.size : Int) - (high.size : Int)) := Lib.hid (by unfold szKeyI; simp only; rw [if_neg c0]; rw [if_neg c1])
      go_enter Try.func83, Try.ntmps83
      go_wp2
      go_ret
      exact ⟨ret_i64 hr.out.symm, (Below.refl _ w).alloc (Nat.le_refl _) _⟩
end Go.Proofs.Ytndodlfmjdgpcaa
