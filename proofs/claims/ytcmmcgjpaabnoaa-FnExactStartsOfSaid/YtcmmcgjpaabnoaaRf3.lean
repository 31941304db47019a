/- The starts of words: both functions at every argument. -/
import Derived.Test.YtcmmcgjpaabnoaaRf2
namespace Go.Proofs.Ytcmmcgjpaabnoaa
open Go.RowKit Go.ChangeShapes Go.WideShapes Go.Deep
set_option linter.unusedVariables false
set_option linter.unusedSimpArgs false

theorem stC11 (n : Nat) {rs : List ByteArray} (hl : rs.length = n) : stR rs = if rowsC n rs = 0 then (colL (fun c => rs.any (fun s => startQ s c)), 0) else ([], rowsC n rs) := by
  subst hl
  unfold stR rowsC
  split
  · rfl
  · split <;> rfl
theorem st11_implC (A : Option Addr) (n c : Nat) (rs : List ByteArray) (w : World) (h : Strs w A n rs) (hn : n ≤ 1048576) (hg : ∀ x ∈ rs, x.size ≤ maxLen) :
    Calls Try.prog 34 #[.slice A n c] w (IOut (stR rs) w) := by
  rw [stC11 n h.1]
  by_cases h0 : rowsC n rs = 0
  · rw [if_pos h0]
    have h12 : n ≤ 12 := by
      unfold rowsC at h0
      split at h0
      · cases h0
      · omega
    have hall : rs.all rowB = true := by
      unfold rowsC at h0
      rw [if_neg (by omega)] at h0
      split at h0
      · assumption
      · cases h0
    exact stW11 A n c rs w h h12 hg hall
  · rw [if_neg h0]
    generalize hq : rowsC n rs = q at *
    have hc := Lib.hid (checkRows11 A n c rs hq w h hn hg)
    have g1 : (q != 0) = true := by simpa [bne_iff_ne] using h0
    have g2 : (q == 0) = false := beq_eq_false_iff_ne.2 h0
    clear hq h hg
    go_enter Try.func34, Try.ntmps34
    go_wp2_with fail
    refine hc.out.mono ?_
    rintro e w1 ⟨rfl, rfl⟩
    go_wp2
    go_ret2
    exact IOut.bad rfl (Below.refl _ _)
theorem st11_impl (A : Option Addr) (n c : Nat) (rs : List ByteArray) (w : World) (h : Strs w A n rs) (hn : n ≤ 1048576) (hg : ∀ x ∈ rs, x.size ≤ maxLen) :
    Calls Try.prog 34 #[.slice A n c] w (IOut (stR rs) w) := st11_implC A n c rs w h hn hg
theorem st11_spec (A : Option Addr) (n c : Nat) (rs : List ByteArray) (w : World) (h : Strs w A n rs) (hn : n ≤ 1048576) (hg : ∀ x ∈ rs, x.size ≤ maxLen) :
    Calls Try.prog 33 #[.slice A n c] w (IOut (stR rs) w) := st11_specC A n c rs w h hn hg
end Go.Proofs.Ytcmmcgjpaabnoaa
