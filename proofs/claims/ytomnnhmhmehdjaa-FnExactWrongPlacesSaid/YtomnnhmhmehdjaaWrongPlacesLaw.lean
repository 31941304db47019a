/- The law FnExactWrongPlaces as one call: for every input it returns true. -/
import Derived.Test.YtomnnhmhmehdjaaCo2
import Derived.Test.YtomnnhmhmehdjaaPp2
import Derived.Test.YtomnnhmhmehdjaaIntO
namespace Go.Proofs.Ytomnnhmhmehdjaa
open Go.RowKit
set_option linter.unusedVariables false
set_option linter.unusedSimpArgs false

set_option maxRecDepth 100000 in
set_option maxHeartbeats 4000000 in
theorem fnExactWrongPlaces_any (s0 : ByteArray) (s1 : ByteArray) (w : World) (h0 : s0.size ≤ maxLen) (h1 : s1.size ≤ maxLen) :
    Calls Try.prog 11 #[.string s0, .string s1] w fun e w' => e = .returned (.bool true) ∧ Below w.heap.size w w' := by
  have h0' := h0
  unfold maxLen at h0'
  have h1' := h1
  unfold maxLen at h1'
  by_cases hbig0 : (1048576 : Int) < (s0.size : Int)
  · go_enter Try.func11, Try.ntmps11
    go_wp2
    go_ret
    exact ⟨rfl, Below.refl _ _⟩
  have hs0 : s0.size ≤ 1048576 := by omega
  have hgb0 : decide ((1048576 : Int) < (s0.size : Int)) = false := decide_eq_false hbig0
  by_cases hbig1 : (1048576 : Int) < (s1.size : Int)
  · go_enter Try.func11, Try.ntmps11
    go_wp2
    go_ret
    exact ⟨rfl, Below.refl _ _⟩
  have hs1 : s1.size ≤ 1048576 := by omega
  have hgb1 : decide ((1048576 : Int) < (s1.size : Int)) = false := decide_eq_false hbig1
  go_enter Try.func11, Try.ntmps11
  go_wp2_with fail
  refine (wp12_spec s0 s1 _ hs0 hs1).mono ?_
  rintro e w1 ⟨AW, nW, cW, rfl, hnW, W, hb1⟩
  have hB1 := Lib.hid (hb1)
  have z1 := Lib.hid hb1.size
  clear hb1
  replace W := W.srow
  have WW := Lib.hid W
  go_wp2_with fail
  refine (wp12_impl s0 s1 _ hs0 hs1).mono ?_
  rintro e w2 ⟨AG, nG, cG, rfl, hnG, G, hb2⟩
  replace W := W.below hb2
  have hB2 := Lib.hid (hB1.out.step hb2)
  clear hB1
  have z2 := Lib.hid hb2.size
  clear hb2
  go_wp2_with fail
  refine (eqIntS_any _ _ nG nW cG cW _ _ _ G.srow W rfl hnG).mono ?_
  rintro e w3 ⟨rfl, hb3⟩
  replace W := W.below hb3
  replace G := G.below hb3
  have hB3 := Lib.hid (hB2.out.step hb3)
  clear hB2
  have z3 := Lib.hid hb3.size
  clear hb3
  have owG := Lib.hid G.own
  go_wp2_with fail
  refine (markIntS_any _ nG cG 1 _ _ _ G hnG (by omega) (by omega)).mono ?_
  rintro e w4 ⟨rfl, M, hgr4⟩
  have z4 := Lib.hid hgr4.size
  have lowq := Lib.hid (owG.out)
  replace W := SRow.above (B := AG) W WW.out hgr4 (fun q hq => by have y1 := z1.out; have y2 := z2.out; have y3 := z3.out; have y4 := z4.out; have l0 := lowq.out q hq; omega)
  have hB4 := Lib.hid (below_grown (A := AG) hB3.out (hB3.out.size) hgr4 (fun q hq => by have y1 := z1.out; have y2 := z2.out; have y3 := z3.out; have l0 := lowq.out q hq; omega))
  clear hB3 hgr4 lowq
  clear G
  replace M := M.srow
  have hqq : decide (1 + (nG : Int) < 0) = false := decide_eq_false (by omega)
  go_wp2_with fail
  refine (heldIntS_any _ nG cG 1 _ M hnG (by omega) (by omega)).mono ?_
  rintro e w5 ⟨rfl, hb5⟩
  replace W := W.below hb5
  replace M := M.below hb5
  have hB5 := Lib.hid (hB4.out.step hb5)
  clear hB4
  have z5 := Lib.hid hb5.size
  clear hb5
  go_wp2_with fail
  refine (wp12_impl s0 s1 _ hs0 hs1).mono ?_
  rintro e w6 ⟨AH, nH, cH, rfl, hnH, H, hb6⟩
  replace W := W.below hb6
  replace M := M.below hb6
  have hB6 := Lib.hid (hB5.out.step hb6)
  clear hB5
  have z6 := Lib.hid hb6.size
  clear hb6
  replace H := H.srow
  go_wp2_with fail
  refine (eqIntS_any _ _ nH nW cH cW _ _ _ H W rfl hnH).mono ?_
  rintro e w7 ⟨rfl, hb7⟩
  replace W := W.below hb7
  replace M := M.below hb7
  replace H := H.below hb7
  have hB7 := Lib.hid (hB6.out.step hb7)
  clear hB6
  have z7 := Lib.hid hb7.size
  clear hb7
  go_wp2_with fail
  refine (heldIntS_any _ nG cG 1 _ M hnG (by omega) (by omega)).mono ?_
  rintro e w8 ⟨rfl, hb8⟩
  replace W := W.below hb8
  replace M := M.below hb8
  replace H := H.below hb8
  have hB8 := Lib.hid (hB7.out.step hb8)
  clear hB7
  have z8 := Lib.hid hb8.size
  clear hb8
  have hw := Lib.hid (hB8.out)
  clear hB8
  go_wp2
  go_ret
  exact ⟨rfl, hw.out⟩
end Go.Proofs.Ytomnnhmhmehdjaa
