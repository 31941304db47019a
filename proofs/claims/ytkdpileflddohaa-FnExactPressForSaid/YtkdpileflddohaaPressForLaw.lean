/- The law on PressFor as one call: for every input it returns true. -/
import Derived.Test.YtkdpileflddohaaPressFor0
import Derived.Test.YtkdpileflddohaaSameLaw
namespace Go.Proofs.Ytkdpileflddohaa
open Go.RowKit
set_option linter.unusedVariables false
set_option linter.unusedSimpArgs false

set_option maxRecDepth 100000 in
set_option maxHeartbeats 1600000 in
theorem fnExactPressFor_any (A0 : Option Addr) (n0 c0 : Nat) (xs0 : List KeyD) (s1 : ByteArray) (w : World) (h0 : n0 ≤ maxLen ∧ Keys w A0 n0 xs0 ∧ ∀ x ∈ xs0, x.good) (h1 : s1.size ≤ maxLen) :
    Calls Try.prog 9 #[.slice A0 n0 c0, .string s1] w fun e w' => e = .returned (.bool true) ∧ Below w.heap.size w w' := by
  obtain ⟨hm0, P0, hg0⟩ := h0
  have hm0' := hm0
  unfold maxLen at hm0'
  have h1' := h1
  unfold maxLen at h1'
  have hrefl0 := Lib.hid (eqKeys_refl xs0)
  by_cases hbig1 : (1048576 : Int) < (s1.size : Int)
  · go_enter Try.func9, Try.ntmps9
    go_wp2
    go_ret
    exact ⟨rfl, Below.refl _ _⟩
  have hs1 : s1.size ≤ 1048576 := by omega
  have hgb1 : decide ((1048576 : Int) < (s1.size : Int)) = false := decide_eq_false hbig1
  go_enter Try.func9, Try.ntmps9
  go_wp2_with fail
  refine (szKeyS_any A0 n0 c0 1048576 xs0 _ P0 hg0 (by omega) (by omega) hm0).mono ?_
  rintro e w1 ⟨l0, rfl, hla0, hlb0, hlc0, hb1⟩
  replace P0 := P0.below hb1
  by_cases hbs0 : l0 < 0
  · go_wp2
    go_ret
    exact ⟨rfl, hb1⟩
  obtain ⟨hlen0, hsm0⟩ := hlc0 (by omega)
  have hn0 : n0 ≤ 1048576 := by omega
  clear hlc0
  go_wp2_with fail
  refine (toKeyS_any A0 n0 c0 xs0 _ P0 hn0).mono ?_
  rintro e w2 ⟨gS0, rfl, hggS0, S0, hb2⟩
  replace P0 := P0.below hb2
  clear hggS0
  go_wp2_with fail
  refine (pressFor_spec _ n0 n0 xs0 s1 _ S0 hn0 hg0 hs1).mono ?_
  rintro e w3 ⟨rfl, hb3⟩
  replace P0 := P0.below hb3
  replace S0 := S0.below hb3
  clear S0
  go_wp2_with fail
  refine (toKeyS_any A0 n0 c0 xs0 _ (P0.below (below_a1 _ _)) hn0).mono ?_
  rintro e w4 ⟨gX0, rfl, hggX0, X0, hb4⟩
  have BS0 := own_cell (own_block hb4) (o := 0) rfl
  have BS1 := own_cell (own_block hb4) (o := 1) rfl
  have hb4' := (below_a1 _ _).step hb4
  clear hb4
  have hb4 := hb4'
  clear hb4'
  have ltS4 := World.block_lt_of_cell? _ _ BS0
  simp only at ltS4
  replace P0 := P0.below hb4
  clear hggX0
  go_wp2_with fail
  refine (pressFor_impl _ n0 n0 xs0 s1 _ X0 hn0 hg0 hs1).mono ?_
  rintro e w5 ⟨rfl, hb5⟩
  replace BS0 := cell_step BS0 hb5
  replace BS1 := cell_step BS1 hb5
  have ltS5 := World.block_lt_of_cell? _ _ BS0
  simp only at ltS5
  replace P0 := P0.below hb5
  replace X0 := X0.below hb5
  go_wp2_with fail
  refine (eqPress_is (v := true) ((PressD.eqB_iff).2 rfl) _).mono ?_
  rintro e w6 ⟨rfl, hb6⟩
  have BG0 := own_cell (own_block hb6) (o := 0) rfl
  have BG1 := own_cell (own_block hb6) (o := 1) rfl
  have hb6' := (below_a1 _ _).step hb6
  clear hb6
  have hb6 := hb6'
  clear hb6'
  replace BS0 := cell_step BS0 hb6
  replace BS1 := cell_step BS1 hb6
  have ltS6 := World.block_lt_of_cell? _ _ BS0
  simp only at ltS6
  have ltG6 := World.block_lt_of_cell? _ _ BG0
  simp only at ltG6
  replace P0 := P0.below hb6
  replace X0 := X0.below hb6
  go_wp2_with fail
  refine (toKeyS_any A0 n0 c0 xs0 _ P0 hn0).mono ?_
  rintro e w7 ⟨gZ0, rfl, hggZ0, Z0, hb7⟩
  replace BS0 := cell_step BS0 hb7
  replace BS1 := cell_step BS1 hb7
  replace BG0 := cell_step BG0 hb7
  replace BG1 := cell_step BG1 hb7
  have ltS7 := World.block_lt_of_cell? _ _ BS0
  simp only at ltS7
  have ltG7 := World.block_lt_of_cell? _ _ BG0
  simp only at ltG7
  replace P0 := P0.below hb7
  replace X0 := X0.below hb7
  clear hggZ0
  go_wp2_with fail
  refine (eqKeyS_any _ _ n0 n0 n0 n0 xs0 xs0 _ X0 Z0 hm0 hm0).mono ?_
  rintro e w8 ⟨rfl, hb8⟩
  replace BS0 := cell_step BS0 hb8
  replace BS1 := cell_step BS1 hb8
  replace BG0 := cell_step BG0 hb8
  replace BG1 := cell_step BG1 hb8
  have ltS8 := World.block_lt_of_cell? _ _ BS0
  simp only at ltS8
  have ltG8 := World.block_lt_of_cell? _ _ BG0
  simp only at ltG8
  replace P0 := P0.below hb8
  replace X0 := X0.below hb8
  replace Z0 := Z0.below hb8
  rw [hrefl0.out]
  clear Z0 X0
  have hw := Lib.hid (hb1.step (hb2.step (hb3.step (hb4.step (hb5.step (hb6.step (hb7.step hb8)))))))
  clear hb1 hb2 hb3 hb4 hb5 hb6 hb7 hb8
  go_wp2
  go_ret
  exact ⟨rfl, hw.out⟩
end Go.Proofs.Ytkdpileflddohaa
