/- The law on ReadPress as one call: for every string it returns true, where the library's listed variables hold what their text lays. -/
import Derived.Test.YtkdpileflddohaaDoorReadPress
namespace Go.Proofs.YtkdpileflddohaaDoor
open Go.RowKit Go.Lib
set_option linter.unusedVariables false
set_option linter.unusedSimpArgs false

theorem readPress_parts (l : List UInt8) : ∃ (p : PressD) (b : Bool), pressVal l = .agg #[.int .i64 p.key, .bool p.shift] ∧ pressOk l = b := by
  unfold pressVal
  split
  · exact ⟨⟨_, _⟩, _, rfl, rfl⟩
  · exact ⟨⟨_, _⟩, _, rfl, rfl⟩

set_option maxHeartbeats 1600000 in
theorem fnExactReadPress_any (s : ByteArray) (w : World) (hs : s.size ≤ maxLen) (htab : Lib.TabIs Tryd.prog w "internal/strconv.uint64pow10" .u64 Lib.pow10Tab) (hS : ErrHeld Tryd.prog w "strconv.ErrSyntax") (hR : ErrHeld Tryd.prog w "strconv.ErrRange") :
    Calls Tryd.prog 6 #[.string s] w fun e w' => e = .returned (.bool true) ∧ Below w.heap.size w w' := by
  have hs' := hs
  unfold maxLen at hs'
  by_cases hb : 1048576 < s.size
  · go_enter Tryd.func6, Tryd.ntmps6
    go_wp2
    go_ret
    exact ⟨rfl, Below.refl _ _⟩
  · obtain ⟨p, b, hp, hbo⟩ := readPress_parts s.data.toList
    have hspec := fun W => readPress_spec s (by omega) W
    have himpl := fun W => readPress_impl s (by omega) W
    rw [hp, hbo] at hspec himpl
    replace hspec := Lib.hid hspec
    replace himpl := Lib.hid himpl
    replace htab := Lib.hid htab
    clear hp hbo
    go_enter Tryd.func6, Tryd.ntmps6
    go_wp2_with fail
    refine (hspec.out _).mono ?_
    rintro e w1 ⟨rfl, hb1⟩
    have B1 : Below w.heap.size w (w1.alloc (.cells #[.int .i64 p.key, .bool p.shift] 30)) := hb1.alloc hb1.size _
    have htab1 := Lib.hid (tabIs_below B1 htab.out)
    have hS1 := Lib.hid (errHeld_below gSyn B1 hS)
    have hR1 := Lib.hid (errHeld_below gRng B1 hR)
    replace hb1 := Lib.hid hb1
    replace B1 := Lib.hid B1
    clear hS hR
    go_wp2_with fail
    refine (himpl.out _ htab1.out hS1.out hR1.out).mono ?_
    rintro e w2 ⟨rfl, hb2⟩
    obtain ⟨hc, hf⟩ := bcell hb2
    have hz2 : w1.heap.size < w2.heap.size := by have := hb2.size; simp at this; omega
    have g4 : w2.cell? ⟨w1.heap.size, 0, none⟩ = some (.int .i64 p.key) := by rw [hc _ _ (by simp)]; go_simp
    have g5 : w2.cell? ⟨w1.heap.size, 1, none⟩ = some (.bool p.shift) := by rw [hc _ _ (by simp)]; go_simp
    have B2 := Lib.hid (B1.out.trans (hb2.mono B1.out.size))
    have HE := Lib.hid (PressD.eqB_iff.2 (rfl : p = p))
    clear hc hf hb2
    go_wp2_with (go_at_call 16; refine (eqPress_is HE.out _).mono ?_)
    rintro e w3 ⟨rfl, hb3⟩
    have B3 := Lib.hid ((B2.out.alloc B2.out.size _).trans (hb3.mono (by have := B2.out.size; simp; omega)))
    clear hb3
    go_wp2
    go_ret
    exact ⟨rfl, B3.out⟩
end Go.Proofs.YtkdpileflddohaaDoor
