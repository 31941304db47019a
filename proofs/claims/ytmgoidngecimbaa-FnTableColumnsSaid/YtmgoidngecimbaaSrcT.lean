/- Texts and numbers that are drawn out of lists. -/
import Derived.Test.YtmgoidngecimbaaSrc
import Derived.Test.YtmgoidngecimbaaStrO
import Derived.Test.YtmgoidngecimbaaIntS
namespace Go.Proofs.Ytmgoidngecimbaa
open Go.RowKit
set_option linter.unusedVariables false
set_option linter.unusedSimpArgs false

set_option maxRecDepth 100000 in
/-- One of some texts. -/
theorem text_any (r t : Nat) (A : Option Addr) (n c : Nat) (xs : List ByteArray) (w : World) (h : SrcAt w r t) (ht : t ≤ 1000000000) (hS : Strs w A n xs) (h0 : 0 < n) (hn : n ≤ 1048576) (hne : ∀ p, A = some p → p.block ≠ r) :
    Calls Try.prog 28 #[.pointer (some ⟨r, 0, none⟩), .slice A n c] w fun e w' => ∃ x ∈ xs, e = .returned (.string x) ∧ SrcAt w' r (t + 2) ∧ w.grownBy w' (some r) := by
  have hp := Lib.hid (pick_any r t (n : Int) w h (by omega) (by omega))
  go_enter Try.func28, Try.ntmps28
  go_wp2_with fail
  refine hp.out.mono ?_
  rintro e w1 ⟨y, rfl, y0, y1, y2, hs, hg⟩
  obtain ⟨k, rfl⟩ : ∃ k : Nat, y = (k : Int) := ⟨y.toNat, by omega⟩
  have hkn : k < n := by
    by_cases h1 : 1 < (n : Int)
    · have := y1 h1
      omega
    · have := y2 (by omega)
      omega
  have hS1 : Strs w1 A n xs := hS.kept (B := some ⟨r, 0, none⟩) hg (fun p q e1 e2 => by cases e2; exact hne p e1)
  obtain ⟨b, off, x, rfl, hb, hx, c0⟩ := str_at hS1 hkn
  have hk1 : (k : Int) < (n : Int) := by omega
  have hmem := List.mem_of_getElem? hx.out
  clear hx
  go_wp2
  go_ret
  exact ⟨x, hmem, rfl, hs, hg⟩
set_option maxRecDepth 100000 in
/-- One of some numbers. -/
theorem among_any (r t : Nat) (A : Option Addr) (n c : Nat) (xs : List Int) (w : World) (h : SrcAt w r t) (ht : t ≤ 1000000000) (hS : Ints w A n xs) (h0 : 0 < n) (hn : n ≤ 1048576) (hne : ∀ p, A = some p → p.block ≠ r) :
    Calls Try.prog 30 #[.pointer (some ⟨r, 0, none⟩), .slice A n c] w fun e w' => ∃ x ∈ xs, e = .returned (.int .i64 x) ∧ SrcAt w' r (t + 2) ∧ w.grownBy w' (some r) := by
  have hp := Lib.hid (pick_any r t (n : Int) w h (by omega) (by omega))
  go_enter Try.func30, Try.ntmps30
  go_wp2_with fail
  refine hp.out.mono ?_
  rintro e w1 ⟨y, rfl, y0, y1, y2, hs, hg⟩
  obtain ⟨k, rfl⟩ : ∃ k : Nat, y = (k : Int) := ⟨y.toNat, by omega⟩
  have hkn : k < n := by
    by_cases h1 : 1 < (n : Int)
    · have := y1 h1
      omega
    · have := y2 (by omega)
      omega
  have hS1 : Ints w1 A n xs := hS.kept (B := some ⟨r, 0, none⟩) hg (fun p q e1 e2 => by cases e2; exact hne p e1)
  obtain ⟨b, off, x, rfl, hb, hx, c0⟩ := int_at hS1 hkn
  have hk1 : (k : Int) < (n : Int) := by omega
  have hmem := List.mem_of_getElem? hx.out
  clear hx
  go_wp2
  go_ret
  exact ⟨x, hmem, rfl, hs, hg⟩
end Go.Proofs.Ytmgoidngecimbaa
