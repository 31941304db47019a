/- A Struck as data: what the law's own helpers on one Struck do. -/
import Derived.Test.YtiekomdpfmadgaaProg
import Derived.Test.YtiekomdpfmadgaaRows0
import Derived.Below
import Derived.Lib.Hide
import Derived.WalkKit
import Derived.ProofKit
import Derived.Outline
import Derived.LoopTactic
namespace Go.Proofs.Ytiekomdpfmadgaa
open Go.RowKit
set_option linter.unusedVariables false
set_option linter.unusedSimpArgs false

structure StruckD where
  place : Int
  letter : ByteArray
def StruckD.cells (p : StruckD) : List Value := [.int .i64 p.place, .string p.letter]
/-- What a reading gives of it: numbers fit, texts fit into memory. -/
def StruckD.good (p : StruckD) : Prop := (Lit.int .i64 p.place).wf = true ∧ p.letter.size ≤ maxLen
def StruckD.small (p : StruckD) : Prop := p.letter.size ≤ 1048576

theorem toStruck_any (p : StruckD) (w : World) :
    Calls Try.prog 55 #[.agg #[.int .i64 p.place, .string p.letter]] w fun e w' => e = .returned (.agg #[.int .i64 p.place, .string p.letter]) ∧ Below w.heap.size w w' := by
  obtain ⟨place, letter⟩ := p
  go_enter Try.func55, Try.ntmps55
  go_wp2
  refine bodyPost_ret (v := .agg #[.int .i64 place, .string letter]) (by simp [results, Try.results55, go_sem]) rfl ⟨rfl, ?_⟩
  exact (((Below.refl _ w).alloc (Nat.le_refl _) _).alloc (by simp) _).alloc (by simp; omega) _

def StruckD.eqB (a b : StruckD) : Bool := (a.place == b.place) && (a.letter.toList == b.letter.toList)
theorem StruckD.eqB_refl (a : StruckD) : a.eqB a = true := by simp [StruckD.eqB]
theorem eqStruck_is {a b : StruckD} {v : Bool} (h : a.eqB b = v) (w : World) :
    Calls Try.prog 56 #[.agg #[.int .i64 a.place, .string a.letter], .agg #[.int .i64 b.place, .string b.letter]] w fun e w' => e = .returned (.bool v) ∧ Below w.heap.size w w' := by
  subst h
  obtain ⟨a0, a1⟩ := a
  obtain ⟨b0, b1⟩ := b
  by_cases h0 : (a0 == b0) = true
  · by_cases h1 : (a1.toList == b1.toList) = true
    · go_enter Try.func56, Try.ntmps56
      go_wp2
      go_ret
      exact ⟨by simp [StruckD.eqB, h0, h1], ((Below.refl _ w).alloc (Nat.le_refl _) _).alloc (by simp) _⟩
    · have g1 : (a1.toList == b1.toList) = false := by simpa using h1
      go_enter Try.func56, Try.ntmps56
      go_wp2
      go_ret
      exact ⟨by simp [StruckD.eqB, h0, h1], ((Below.refl _ w).alloc (Nat.le_refl _) _).alloc (by simp) _⟩
  · have g0 : (a0 == b0) = false := by simpa using h0
    go_enter Try.func56, Try.ntmps56
    go_wp2
    go_ret
    exact ⟨by simp [StruckD.eqB, h0], ((Below.refl _ w).alloc (Nat.le_refl _) _).alloc (by simp) _⟩

/-- What is left of l. -/
def szStruckI (l : Int) (x : StruckD) : Int := if l - (x.letter.size : Int) < 0 then -1 else l - (x.letter.size : Int)
theorem szStruckI_le (l : Int) (x : StruckD) (h : 0 ≤ l) : -1 ≤ szStruckI l x ∧ szStruckI l x ≤ l := by
  unfold szStruckI
  repeat' split
  all_goals omega
theorem szStruckI_small (l : Int) (x : StruckD) (h : l ≤ 1048576) (h0 : 0 ≤ szStruckI l x) : x.small := by
  unfold szStruckI at h0
  unfold StruckD.small
  repeat' split at h0
  all_goals omega
set_option maxHeartbeats 800000 in
theorem szStruck_any (x : StruckD) (l : Int) (w : World) (h0 : 0 ≤ l) (h1 : l ≤ 1048576) (hx : x.good) :
    Calls Try.prog 54 #[.agg #[.int .i64 x.place, .string x.letter], .int .i64 l] w fun e w' => e = .returned (.int .i64 (szStruckI l x)) ∧ Below w.heap.size w w' := by
  obtain ⟨place, letter⟩ := x
  unfold StruckD.good maxLen at hx
  simp only at hx
  obtain ⟨hw_place, hs_letter⟩ := hx
  clear hw_place
  by_cases c0 : l - (letter.size : Int) < 0
  · have hr : Hid (szStruckI l ⟨place, letter⟩ = -1) := Lib.hid (by unfold szStruckI; simp only; rw [if_pos c0])
    go_enter Try.func54, Try.ntmps54
    go_wp2
    go_ret
    exact ⟨ret_i64 hr.out.symm, (Below.refl _ w).alloc (Nat.le_refl _) _⟩
  · have hr : Hid (szStruckI l ⟨place, letter⟩ = l - (letter.size : Int)) := Lib.hid (by unfold szStruckI; simp only; rw [if_neg c0])
    go_enter Try.func54, Try.ntmps54
    go_wp2
    go_ret
    exact ⟨ret_i64 hr.out.symm, (Below.refl _ w).alloc (Nat.le_refl _) _⟩
end Go.Proofs.Ytiekomdpfmadgaa
