/- The law on tables and columns as one call: for every input it returns true. -/
import Derived.Test.YtmgoidngecimbaaTd6
import Derived.Test.YtmgoidngecimbaaTlS
import Derived.Test.YtmgoidngecimbaaTlI
import Derived.Test.YtmgoidngecimbaaTblI
import Derived.Test.YtmgoidngecimbaaAlS
import Derived.Test.YtmgoidngecimbaaAlI
import Derived.Test.YtmgoidngecimbaaNumI
namespace Go.Proofs.Ytmgoidngecimbaa
open Go.RowKit Go.ChangeShapes Go.WideShapes Go.Deep
set_option linter.unusedVariables false
set_option linter.unusedSimpArgs false

theorem ints_same8 {w : World} {A B : Option Addr} {n m : Nat} {xs : List Int} (h : Ints w A n xs) (k : Ints w B m xs) : m = n := by rw [← h.1, ← k.1]
theorem strs_same8 {w : World} {A B : Option Addr} {n m : Nat} {xs : List ByteArray} (h : Strs w A n xs) (k : Strs w B m xs) : m = n := by rw [← h.1, ← k.1]
theorem shortL.good {xs : List ByteArray} (h : shortL xs) : ∀ s ∈ xs, strGood s := fun x hx => by
  have := h x hx
  unfold strGood maxLen
  omega
/-- Aligned numbers are short. -/
theorem al_short {l out : List ByteArray} (h : alR l = (out, 0)) : ∀ s ∈ out, s.size ≤ 1048576 := by
  unfold alR at h
  split at h
  · rename_i h1
    split at h
    · obtain ⟨rfl, _⟩ := Prod.mk.inj h
      simp only [Bool.and_eq_true] at h1
      have hr := mostP_range (all_short h1.1)
      intro s hs
      obtain ⟨x, hx, rfl⟩ := List.mem_map.1 hs
      have h2 := pnI_range (all_short h1.1 x hx)
      have h3 := all_short h1.1 x hx
      have hb : (blanksB (mostP l - pnI x).toNat).size = (mostP l - pnI x).toNat := blanksB_size _
      rw [padS, ByteArray.size_append, hb]
      omega
    · cases (Prod.mk.inj h).2
  · cases (Prod.mk.inj h).2

set_option maxRecDepth 100000 in
set_option maxHeartbeats 25600000 in
theorem fnTableColumns_any (A0 : Option Addr) (n0 c0 : Nat) (xs0 : List Int) (w : World) (h0 : n0 ≤ maxLen ∧ Bytes w A0 n0 xs0 ∧ ∀ x ∈ xs0, byteGood x) :
    Calls Try.prog 3 #[.slice A0 n0 c0] w fun e w' => e = .returned (.bool true) ∧ Below w.heap.size w w' := by
  obtain ⟨hm0, P0, hg0⟩ := h0
  replace hg0 := Lib.hid hg0
  have hbig := fun v hv => Lib.hid (big8 A0 n0 c0 w v hv hm0)
  cases hlv : decide (4096 < n0) with
  | true =>
    replace hbig := hbig _ hlv
    clear hlv P0
    go_enter Try.func3, Try.ntmps3
    go_wp2_with fail
    refine hbig.out.mono ?_
    rintro e w' ⟨rfl, rfl⟩
    go_wp2
    go_ret
    exact ⟨rfl, Below.refl _ _⟩
  | false =>
    replace hbig := hbig _ hlv
    replace hm0 := Lib.hid hm0
    clear hlv
    go_enter Try.func3, Try.ntmps3
    go_wp2_with fail
    refine hbig.out.mono ?_
    rintro e w' ⟨rfl, rfl⟩
    clear hbig
    have hB := Lib.hid (Below.refl w.heap.size w)
    replace P0 := Lib.hid P0
    have hcc := Lib.hid (dtable_any A0 n0 c0 xs0 _ hm0.out P0.out hg0.out)
    go_wp2_with fail
    refine hcc.out.mono ?_
    rintro e w1 ⟨A1, n1, c1, R, sd, gp, rfl, hn1, hI1, hTg, hsd, hgp, hb1⟩
    clear hcc
    replace P0 := Lib.hid (P0.out.below hb1)
    replace hB := Lib.hid (hB.out.step hb1)
    clear hb1
    replace hI1 := Lib.hid hI1
    replace hTg := Lib.hid hTg
    replace hsd := Lib.hid hsd
    replace hgp := Lib.hid hgp
    replace hn1 : n1 ≤ 1048576 := by omega
    have hcc := Lib.hid (tl_impl A1 n1 c1 R sd gp _ hI1.out hn1 hTg.out hsd.out hgp.out)
    go_wp2_with fail
    refine hcc.out.mono ?_
    rintro e w2 ⟨A2, n2, c2, rfl, hn2, hO2, hb2⟩
    clear hcc
    replace P0 := Lib.hid (P0.out.below hb2)
    replace hI1 := Lib.hid (hI1.out.below hb2)
    replace hB := Lib.hid (hB.out.step hb2)
    clear hb2
    have hI2 := Lib.hid hO2.srow
    clear hO2
    have hcc := Lib.hid (tl_spec A1 n1 c1 R sd gp _ hI1.out hn1 hTg.out hsd.out hgp.out)
    go_wp2_with fail
    refine hcc.out.mono ?_
    rintro e w3 ⟨A3, n3, c3, rfl, hn3, hO3, hb3⟩
    clear hcc
    replace P0 := Lib.hid (P0.out.below hb3)
    replace hI1 := Lib.hid (hI1.out.below hb3)
    replace hI2 := Lib.hid (hI2.out.below hb3)
    replace hB := Lib.hid (hB.out.step hb3)
    clear hb3
    have hI3 := Lib.hid hO3.srow
    clear hO3
    obtain rfl : n3 = n2 := strs_same8 hI2.out hI3.out
    have hcc := Lib.hid (cwR_impl A1 n1 c1 R _ hI1.out hn1 hTg.out)
    go_wp2_with fail
    refine hcc.out.mono ?_
    rintro e w4 ⟨A4, n4, c4, rfl, hn4, hO4, hb4⟩
    clear hcc
    replace P0 := Lib.hid (P0.out.below hb4)
    replace hI1 := Lib.hid (hI1.out.below hb4)
    replace hI2 := Lib.hid (hI2.out.below hb4)
    replace hI3 := Lib.hid (hI3.out.below hb4)
    replace hB := Lib.hid (hB.out.step hb4)
    clear hb4
    have hI4 := Lib.hid hO4.srow
    clear hO4
    have hcc := Lib.hid (cwR_spec A1 n1 c1 R _ hI1.out hn1 hTg.out)
    go_wp2_with fail
    refine hcc.out.mono ?_
    rintro e w5 ⟨A5, n5, c5, rfl, hn5, hO5, hb5⟩
    clear hcc
    replace P0 := Lib.hid (P0.out.below hb5)
    replace hI1 := Lib.hid (hI1.out.below hb5)
    replace hI2 := Lib.hid (hI2.out.below hb5)
    replace hI3 := Lib.hid (hI3.out.below hb5)
    replace hI4 := Lib.hid (hI4.out.below hb5)
    replace hB := Lib.hid (hB.out.step hb5)
    clear hb5
    have hI5 := Lib.hid hO5.srow
    clear hO5
    obtain rfl : n5 = n4 := ints_same8 hI4.out hI5.out
    have hRl := Lib.hid hI1.out.len
    clear hI1 hTg hsd
    have hcc := Lib.hid (dstops_any A0 n0 c0 xs0 _ hm0.out P0.out hg0.out)
    go_wp2_with fail
    refine hcc.out.mono ?_
    rintro e w6 ⟨A6, n6, c6, ws, lf, bw, rfl, hn6, hI6, hg6, hlf, hbw, hb6⟩
    clear hcc
    replace P0 := Lib.hid (P0.out.below hb6)
    replace hI2 := Lib.hid (hI2.out.below hb6)
    replace hI3 := Lib.hid (hI3.out.below hb6)
    replace hI4 := Lib.hid (hI4.out.below hb6)
    replace hI5 := Lib.hid (hI5.out.below hb6)
    replace hB := Lib.hid (hB.out.step hb6)
    clear hb6
    replace hI6 := Lib.hid hI6
    replace hg6 := Lib.hid hg6
    replace hlf := Lib.hid hlf
    replace hbw := Lib.hid hbw
    replace hn6 : n6 ≤ 1048576 := by omega
    have hcc := Lib.hid (sf_impl A6 n6 c6 ws lf bw _ hI6.out hn6 hg6.out hlf.out hbw.out)
    go_wp2_with fail
    refine hcc.out.mono ?_
    rintro e w7 ⟨A7, n7, c7, rfl, hn7, hO7, hb7⟩
    clear hcc
    replace P0 := Lib.hid (P0.out.below hb7)
    replace hI2 := Lib.hid (hI2.out.below hb7)
    replace hI3 := Lib.hid (hI3.out.below hb7)
    replace hI4 := Lib.hid (hI4.out.below hb7)
    replace hI5 := Lib.hid (hI5.out.below hb7)
    replace hI6 := Lib.hid (hI6.out.below hb7)
    replace hB := Lib.hid (hB.out.step hb7)
    clear hb7
    have hI7 := Lib.hid hO7.srow
    clear hO7
    have hcc := Lib.hid (sf_spec A6 n6 c6 ws lf bw _ hI6.out hn6 hg6.out hlf.out hbw.out)
    go_wp2_with fail
    refine hcc.out.mono ?_
    rintro e w8 ⟨A8, n8, c8, rfl, hn8, hO8, hb8⟩
    clear hcc
    replace P0 := Lib.hid (P0.out.below hb8)
    replace hI2 := Lib.hid (hI2.out.below hb8)
    replace hI3 := Lib.hid (hI3.out.below hb8)
    replace hI4 := Lib.hid (hI4.out.below hb8)
    replace hI5 := Lib.hid (hI5.out.below hb8)
    replace hI6 := Lib.hid (hI6.out.below hb8)
    replace hI7 := Lib.hid (hI7.out.below hb8)
    replace hB := Lib.hid (hB.out.step hb8)
    clear hb8
    have hI8 := Lib.hid hO8.srow
    clear hO8
    obtain rfl : n8 = n7 := ints_same8 hI7.out hI8.out
    clear hg6 hlf hbw
    have hcc := Lib.hid (dgap_any A0 n0 c0 xs0 _ hm0.out P0.out hg0.out)
    go_wp2_with fail
    refine hcc.out.mono ?_
    rintro e w9 ⟨A9, n9, c9, vs, fr, tv, rfl, hn9, hI9, hg9, hfr, hto, hb9⟩
    clear hcc
    replace P0 := Lib.hid (P0.out.below hb9)
    replace hI2 := Lib.hid (hI2.out.below hb9)
    replace hI3 := Lib.hid (hI3.out.below hb9)
    replace hI4 := Lib.hid (hI4.out.below hb9)
    replace hI5 := Lib.hid (hI5.out.below hb9)
    replace hI6 := Lib.hid (hI6.out.below hb9)
    replace hI7 := Lib.hid (hI7.out.below hb9)
    replace hI8 := Lib.hid (hI8.out.below hb9)
    replace hB := Lib.hid (hB.out.step hb9)
    clear hb9
    replace hI9 := Lib.hid hI9
    replace hg9 := Lib.hid hg9
    replace hfr := Lib.hid hfr
    replace hto := Lib.hid hto
    replace hn9 : n9 ≤ 1048576 := by omega
    have hcc := Lib.hid (wg_impl A9 n9 c9 vs fr tv _ hI9.out hn9 hg9.out hfr.out hto.out)
    go_wp2_with fail
    refine hcc.out.mono ?_
    rintro e w10 ⟨rfl, hb10⟩
    clear hcc
    replace P0 := Lib.hid (P0.out.below hb10)
    replace hI2 := Lib.hid (hI2.out.below hb10)
    replace hI3 := Lib.hid (hI3.out.below hb10)
    replace hI4 := Lib.hid (hI4.out.below hb10)
    replace hI5 := Lib.hid (hI5.out.below hb10)
    replace hI6 := Lib.hid (hI6.out.below hb10)
    replace hI7 := Lib.hid (hI7.out.below hb10)
    replace hI8 := Lib.hid (hI8.out.below hb10)
    replace hI9 := Lib.hid (hI9.out.below hb10)
    replace hB := Lib.hid (hB.out.step hb10)
    clear hb10
    have hcc := Lib.hid (wg_spec A9 n9 c9 vs fr tv _ hI9.out hn9 hg9.out hfr.out hto.out)
    go_wp2_with fail
    refine hcc.out.mono ?_
    rintro e w11 ⟨rfl, hb11⟩
    clear hcc
    replace P0 := Lib.hid (P0.out.below hb11)
    replace hI2 := Lib.hid (hI2.out.below hb11)
    replace hI3 := Lib.hid (hI3.out.below hb11)
    replace hI4 := Lib.hid (hI4.out.below hb11)
    replace hI5 := Lib.hid (hI5.out.below hb11)
    replace hI6 := Lib.hid (hI6.out.below hb11)
    replace hI7 := Lib.hid (hI7.out.below hb11)
    replace hI8 := Lib.hid (hI8.out.below hb11)
    replace hI9 := Lib.hid (hI9.out.below hb11)
    replace hB := Lib.hid (hB.out.step hb11)
    clear hb11
    clear hg9 hfr hto
    have hcc := Lib.hid (dalign_any A0 n0 c0 xs0 _ hm0.out P0.out hg0.out)
    go_wp2_with fail
    refine hcc.out.mono ?_
    rintro e w12 ⟨A12, n12, c12, ls, rfl, hn12, hI12, hsh, hb12⟩
    clear hcc
    replace P0 := Lib.hid (P0.out.below hb12)
    replace hI2 := Lib.hid (hI2.out.below hb12)
    replace hI3 := Lib.hid (hI3.out.below hb12)
    replace hI4 := Lib.hid (hI4.out.below hb12)
    replace hI5 := Lib.hid (hI5.out.below hb12)
    replace hI6 := Lib.hid (hI6.out.below hb12)
    replace hI7 := Lib.hid (hI7.out.below hb12)
    replace hI8 := Lib.hid (hI8.out.below hb12)
    replace hI9 := Lib.hid (hI9.out.below hb12)
    replace hB := Lib.hid (hB.out.step hb12)
    clear hb12
    replace hI12 := Lib.hid hI12
    have hlg := Lib.hid hsh.good
    clear hsh
    replace hn12 : n12 ≤ 1048576 := by omega
    have hcc := Lib.hid (al_impl A12 n12 c12 ls _ hI12.out hn12 hlg.out)
    go_wp2_with fail
    refine hcc.out.mono ?_
    rintro e w13 ⟨A13, n13, c13, rfl, hn13, hO13, hb13⟩
    clear hcc
    replace P0 := Lib.hid (P0.out.below hb13)
    replace hI2 := Lib.hid (hI2.out.below hb13)
    replace hI3 := Lib.hid (hI3.out.below hb13)
    replace hI4 := Lib.hid (hI4.out.below hb13)
    replace hI5 := Lib.hid (hI5.out.below hb13)
    replace hI6 := Lib.hid (hI6.out.below hb13)
    replace hI7 := Lib.hid (hI7.out.below hb13)
    replace hI8 := Lib.hid (hI8.out.below hb13)
    replace hI9 := Lib.hid (hI9.out.below hb13)
    replace hI12 := Lib.hid (hI12.out.below hb13)
    replace hB := Lib.hid (hB.out.step hb13)
    clear hb13
    have hI13 := Lib.hid hO13.srow
    clear hO13
    have hcc := Lib.hid (al_spec A12 n12 c12 ls _ hI12.out hn12 hlg.out)
    go_wp2_with fail
    refine hcc.out.mono ?_
    rintro e w14 ⟨A14, n14, c14, rfl, hn14, hO14, hb14⟩
    clear hcc
    replace P0 := Lib.hid (P0.out.below hb14)
    replace hI2 := Lib.hid (hI2.out.below hb14)
    replace hI3 := Lib.hid (hI3.out.below hb14)
    replace hI4 := Lib.hid (hI4.out.below hb14)
    replace hI5 := Lib.hid (hI5.out.below hb14)
    replace hI6 := Lib.hid (hI6.out.below hb14)
    replace hI7 := Lib.hid (hI7.out.below hb14)
    replace hI8 := Lib.hid (hI8.out.below hb14)
    replace hI9 := Lib.hid (hI9.out.below hb14)
    replace hI12 := Lib.hid (hI12.out.below hb14)
    replace hI13 := Lib.hid (hI13.out.below hb14)
    replace hB := Lib.hid (hB.out.step hb14)
    clear hb14
    have hI14 := Lib.hid hO14.srow
    clear hO14
    obtain rfl : n14 = n13 := strs_same8 hI13.out hI14.out
    clear hlg hI12
    have hcc := Lib.hid (ddec_any A0 n0 c0 xs0 _ hm0.out P0.out hg0.out)
    go_wp2_with fail
    refine hcc.out.mono ?_
    rintro e w15 ⟨ds, dc, rfl, hds, hdc, hb15⟩
    clear hcc
    replace P0 := Lib.hid (P0.out.below hb15)
    replace hI2 := Lib.hid (hI2.out.below hb15)
    replace hI3 := Lib.hid (hI3.out.below hb15)
    replace hI4 := Lib.hid (hI4.out.below hb15)
    replace hI5 := Lib.hid (hI5.out.below hb15)
    replace hI6 := Lib.hid (hI6.out.below hb15)
    replace hI7 := Lib.hid (hI7.out.below hb15)
    replace hI8 := Lib.hid (hI8.out.below hb15)
    replace hI9 := Lib.hid (hI9.out.below hb15)
    replace hI13 := Lib.hid (hI13.out.below hb15)
    replace hI14 := Lib.hid (hI14.out.below hb15)
    replace hB := Lib.hid (hB.out.step hb15)
    clear hb15
    have hds' := Lib.hid (show ds.size ≤ 1048576 by omega)
    replace hdc := Lib.hid hdc
    clear hds P0 hg0
    have hcc := Lib.hid (dec8_impl ds dc w15 hds'.out hdc.out)
    go_wp2_with fail
    refine hcc.out.mono ?_
    rintro e w16 ⟨rfl, hb16⟩
    clear hcc
    replace hI2 := Lib.hid (hI2.out.below hb16)
    replace hI3 := Lib.hid (hI3.out.below hb16)
    replace hI4 := Lib.hid (hI4.out.below hb16)
    replace hI5 := Lib.hid (hI5.out.below hb16)
    replace hI6 := Lib.hid (hI6.out.below hb16)
    replace hI7 := Lib.hid (hI7.out.below hb16)
    replace hI8 := Lib.hid (hI8.out.below hb16)
    replace hI9 := Lib.hid (hI9.out.below hb16)
    replace hI13 := Lib.hid (hI13.out.below hb16)
    replace hI14 := Lib.hid (hI14.out.below hb16)
    replace hB := Lib.hid (hB.out.step hb16)
    clear hb16
    have hcc := Lib.hid (dec8_spec ds dc w16 hds'.out hdc.out)
    go_wp2_with fail
    refine hcc.out.mono ?_
    rintro e w17 ⟨rfl, hb17⟩
    clear hcc
    replace hI2 := Lib.hid (hI2.out.below hb17)
    replace hI3 := Lib.hid (hI3.out.below hb17)
    replace hI4 := Lib.hid (hI4.out.below hb17)
    replace hI5 := Lib.hid (hI5.out.below hb17)
    replace hI6 := Lib.hid (hI6.out.below hb17)
    replace hI7 := Lib.hid (hI7.out.below hb17)
    replace hI8 := Lib.hid (hI8.out.below hb17)
    replace hI9 := Lib.hid (hI9.out.below hb17)
    replace hI13 := Lib.hid (hI13.out.below hb17)
    replace hI14 := Lib.hid (hI14.out.below hb17)
    replace hB := Lib.hid (hB.out.step hb17)
    clear hb17
    clear hds' hdc
    have hL1 := Lib.hid (fun (out : List ByteArray) (h : tlR R sd gp = (out, 0)) => lines_law h)
    have hL2 := Lib.hid (fun (out : List Int) (h : stopsR ws lf bw = (out, 0)) => stops_law h)
    have hL3 := Lib.hid (fun (m : Int) (h : gapR vs fr tv = (m, 0)) => gap_law h)
    have hL4 := Lib.hid (fun (out : List ByteArray) (h : alR ls = (out, 0)) => And.intro (point_law h) (al_short h))
    have hwl := Lib.hid hI6.out.1
    have hvl := Lib.hid hI9.out.1
    generalize hT : tlR R sd gp = T at *
    generalize hC : colR R = C at *
    generalize hS : stopsR ws lf bw = S at *
    generalize hG : gapR vs fr tv = G at *
    generalize hA : alR ls = Al at *
    generalize hD : decR ds dc = D at *
    obtain ⟨tl, tc⟩ := T
    obtain ⟨cl, cc⟩ := C
    obtain ⟨sl, sc⟩ := S
    obtain ⟨gv, gc⟩ := G
    obtain ⟨al, ac⟩ := Al
    obtain ⟨dv, dc2⟩ := D
    replace hT := Lib.hid hT
    replace hC := Lib.hid hC
    replace hS := Lib.hid hS
    replace hG := Lib.hid hG
    replace hA := Lib.hid hA
    replace hD := Lib.hid hD
    dsimp only at *
    have e1 : (tc != tc) = false := by simp
    have e2 : (cc != cc) = false := by simp
    have e3 : (sc != sc) = false := by simp
    have e4 : (gc != gc) = false := by simp
    have e5 : (gv != gv) = false := by simp
    have e6 : (ac != ac) = false := by simp
    have e7 : (dc2 != dc2) = false := by simp
    have e8 : (dv != dv) = false := by simp
    have hcc := Lib.hid (f6texts_any A2 A3 n3 c2 c3 tl _ hI2.out hI3.out hn2)
    go_wp2_with fail
    refine hcc.out.mono ?_
    rintro e w18 ⟨rfl, hb18⟩
    clear hcc
    replace hI2 := Lib.hid (hI2.out.below hb18)
    replace hI3 := Lib.hid (hI3.out.below hb18)
    replace hI4 := Lib.hid (hI4.out.below hb18)
    replace hI5 := Lib.hid (hI5.out.below hb18)
    replace hI6 := Lib.hid (hI6.out.below hb18)
    replace hI7 := Lib.hid (hI7.out.below hb18)
    replace hI8 := Lib.hid (hI8.out.below hb18)
    replace hI9 := Lib.hid (hI9.out.below hb18)
    replace hI13 := Lib.hid (hI13.out.below hb18)
    replace hI14 := Lib.hid (hI14.out.below hb18)
    replace hB := Lib.hid (hB.out.step hb18)
    clear hb18
    clear hI2
    have hcc := Lib.hid (f6ints_any A4 A5 n5 c4 c5 cl _ hI4.out hI5.out hn4)
    go_wp2_with fail
    refine hcc.out.mono ?_
    rintro e w19 ⟨rfl, hb19⟩
    clear hcc
    replace hI3 := Lib.hid (hI3.out.below hb19)
    replace hI4 := Lib.hid (hI4.out.below hb19)
    replace hI5 := Lib.hid (hI5.out.below hb19)
    replace hI6 := Lib.hid (hI6.out.below hb19)
    replace hI7 := Lib.hid (hI7.out.below hb19)
    replace hI8 := Lib.hid (hI8.out.below hb19)
    replace hI9 := Lib.hid (hI9.out.below hb19)
    replace hI13 := Lib.hid (hI13.out.below hb19)
    replace hI14 := Lib.hid (hI14.out.below hb19)
    replace hB := Lib.hid (hB.out.step hb19)
    clear hb19
    clear hI4
    have hcc := Lib.hid (f6ints_any A7 A8 n8 c7 c8 sl _ hI7.out hI8.out hn7)
    go_wp2_with fail
    refine hcc.out.mono ?_
    rintro e w20 ⟨rfl, hb20⟩
    clear hcc
    replace hI3 := Lib.hid (hI3.out.below hb20)
    replace hI5 := Lib.hid (hI5.out.below hb20)
    replace hI6 := Lib.hid (hI6.out.below hb20)
    replace hI7 := Lib.hid (hI7.out.below hb20)
    replace hI8 := Lib.hid (hI8.out.below hb20)
    replace hI9 := Lib.hid (hI9.out.below hb20)
    replace hI13 := Lib.hid (hI13.out.below hb20)
    replace hI14 := Lib.hid (hI14.out.below hb20)
    replace hB := Lib.hid (hB.out.step hb20)
    clear hb20
    clear hI7
    have hcc := Lib.hid (f6texts_any A13 A14 n14 c13 c14 al _ hI13.out hI14.out hn13)
    go_wp2_with fail
    refine hcc.out.mono ?_
    rintro e w21 ⟨rfl, hb21⟩
    clear hcc
    replace hI3 := Lib.hid (hI3.out.below hb21)
    replace hI5 := Lib.hid (hI5.out.below hb21)
    replace hI6 := Lib.hid (hI6.out.below hb21)
    replace hI8 := Lib.hid (hI8.out.below hb21)
    replace hI9 := Lib.hid (hI9.out.below hb21)
    replace hI13 := Lib.hid (hI13.out.below hb21)
    replace hI14 := Lib.hid (hI14.out.below hb21)
    replace hB := Lib.hid (hB.out.step hb21)
    clear hb21
    clear hI13 e1 e2 e3 e4 e5 e6 e7 e8
    have hLw := Lib.hid (Nat.le_refl w21.heap.size)
    by_cases hz3 : sc = 0
    · have z3a : (sc == 0) = true := beq_iff_eq.2 hz3
      have z3b : (sc != 0) = false := by simp [hz3]
      replace hz3 := Lib.hid hz3
      have hlaw := hL2.out sl (by rw [hz3.out])
      obtain ⟨q1, q2, q3, q4, q5, q6, q7⟩ := hlaw
      have hsl := hI8.out.1
      have hn86 : n8 = n6 := by rw [← hsl, q1, hwl.out]
      have hn12 : n6 ≤ 12 := by rw [← hwl.out]; exact q4
      replace q1 := Lib.hid q1
      replace q4 := Lib.hid q4
      replace q5 := Lib.hid q5
      replace q6 := Lib.hid q6
      replace q7 := Lib.hid q7
      replace hsl := Lib.hid hsl
      replace hn86 := Lib.hid hn86
      go_wp2
      go_loopw [39] (fun i wz9 => ∃ k : Nat, 1 ≤ k ∧ i = .int .i64 k ∧ Below w21.heap.size w21 wz9) (fun i _ => n8 - (intOf i).toNat)
      case atStart => exact ⟨1, by omega, rfl, Below.refl _ _⟩
      case round =>
        rename World => wr
        obtain ⟨k, hk, rfl, hbw⟩ := hrel
        by_cases hlt : k < n8
        · obtain ⟨b, off, y, hA8, hbb, hy, d1⟩ := int_at (hI8.out.below hbw) hlt
          obtain ⟨b', off', x, hA8', hbb', hx, d0⟩ := int_at (hI8.out.below hbw) (k := k - 1) (by omega)
          rw [hA8] at hA8'
          injection hA8' with hA8'
          injection hA8' with e1 e2
          subst e1 e2
          obtain ⟨b2, off2, z, hA6, hbb2, hz, d2⟩ := int_at (hI6.out.below hbw) (k := k - 1) (by have := hn86.out; omega)
          have hyx := q7.out (k - 1) x y z hx.out (by rw [Nat.sub_add_cancel hk]; exact hy.out) hz.out
          have y0 := q6.out y (List.mem_of_getElem? hy.out)
          have x0 := q6.out x (List.mem_of_getElem? hx.out)
          have z0 := q5.out z (List.mem_of_getElem? hz.out)
          have hn12' := hn86.out
          obtain ⟨dd, hdd⟩ : ∃ dd, dd = y - x := ⟨_, rfl⟩
          have hw1 : IntKind.i64.wrap (y - x) = dd := by rw [hdd]; exact IntWalk.i64_in _ (by omega)
          have hw2 : IntKind.i64.wrap (z + bw) = dd := by rw [hdd, IntWalk.i64_in _ (by omega)]; omega
          have hw3 : IntKind.i64.wrap ((k : Int) - 1) = (k : Int) - 1 := IntWalk.i64_in _ (by omega)
          have k1 : (1 : Int) ≤ (k : Int) := by omega
          have k2 : (0 : Int) ≤ (k : Int) - 1 := by omega
          have k3 : (k : Int) - 1 < (n8 : Int) := by omega
          have k6 : (k : Int) - 1 < (n6 : Int) := by omega
          have k4 : ((k : Int) - 1).toNat = k - 1 := by omega
          have k5 : (k : Int) < (n8 : Int) := by omega
          have k0 : (0 : Int) ≤ (k : Int) := by omega
          have e5 : (dd != dd) = false := by simp
          subst hA8
          subst hA6
          have hbw2 := Lib.hid hbw
          clear hyx y0 x0 z0 hdd hx hy hz hn12'
          go_wp2_with fail
          go_quiet (fail)
          go_wp2
          go_roundw
          case rel => exact ⟨k + 1, by omega, by go_num, below_drewN hbw2.out _⟩
          case measure => simp [intOf]; omega
        · clear q1 q4 q5 q6 q7 hsl hn86
          replace hI3 := Lib.hid (hI3.out.below hbw)
          replace hI5 := Lib.hid (hI5.out.below hbw)
          replace hI6 := Lib.hid (hI6.out.below hbw)
          replace hI8 := Lib.hid (hI8.out.below hbw)
          replace hI9 := Lib.hid (hI9.out.below hbw)
          replace hI14 := Lib.hid (hI14.out.below hbw)
          replace hB := Lib.hid (hB.out.step hbw)
          have hbwx := Lib.hid hbw
          clear hbw
          have hLw3 := Lib.hid (Nat.le_refl wr.heap.size)
          by_cases hz5 : gc = 0
          · have z5a : (gc == 0) = true := beq_iff_eq.2 hz5
            have z5b : (gc != 0) = false := by simp [hz5]
            replace hz5 := Lib.hid hz5
            have hlaw := hL3.out gv (by rw [hz5.out])
            obtain ⟨p1, p2, p3, p4, p5, p6, p7, p8, p9, p10⟩ := hlaw
            rw [hvl.out] at p1 p2 p9 p10
            have hs0 := sumI_range vs p3
            have hsm := fun W (hW : Ints W A9 n9 vs) => f6sum_any A9 n9 c9 vs p2 p3 W hW rfl
            replace p3 := Lib.hid p3
            obtain ⟨Q, hQ⟩ : ∃ Q, Q = ((n9 : Int) - 1) * gv := ⟨_, rfl⟩
            have hQ2 : ((n9 : Int) - 1) * (gv + 1) = Q + ((n9 : Int) - 1) := by rw [hQ, Int.mul_add, Int.mul_one]
            rw [← hQ] at p9
            rw [hQ2] at p10
            generalize hSM : sumI vs = SM at *
            have hQ0 : 0 ≤ Q := by rw [hQ]; exact Int.mul_nonneg (by omega) (by omega)
            have hw1 : IntKind.i64.wrap ((n9 : Int) - 1) = (n9 : Int) - 1 := IntWalk.i64_in _ (by omega)
            have hw2 : IntKind.i64.wrap (((n9 : Int) - 1) * gv) = Q := by rw [← hQ]; exact IntWalk.i64_in _ (by omega)
            have hw3 : IntKind.i64.wrap (SM + Q) = SM + Q := IntWalk.i64_in _ (by omega)
            have hw4 : IntKind.i64.wrap (tv - fr) = tv - fr := IntWalk.i64_in _ (by omega)
            have hw5 : IntKind.i64.wrap (gv + 1) = gv + 1 := IntWalk.i64_in _ (by omega)
            have hw6 : IntKind.i64.wrap (((n9 : Int) - 1) * (gv + 1)) = Q + ((n9 : Int) - 1) := by rw [hQ2]; exact IntWalk.i64_in _ (by omega)
            have hw7 : IntKind.i64.wrap (SM + (Q + ((n9 : Int) - 1))) = SM + (Q + ((n9 : Int) - 1)) := IntWalk.i64_in _ (by omega)
            have hg1 : decide (tv - fr < SM + Q) = false := decide_eq_false (by omega)
            have hg2 : decide (SM + (Q + ((n9 : Int) - 1)) ≤ tv - fr) = false := decide_eq_false (by omega)
            have hg3 : decide (gv < 1) = false := decide_eq_false (by omega)
            have hsm' := Lib.hid hsm
            clear hsm p1 p2 p3 p4 p5 p6 p7 p8 p9 p10 hQ hQ2 hSM hs0 hQ0
            have hcc := Lib.hid (hsm'.out _ hI9.out)
            go_wp2_with fail
            refine hcc.out.mono ?_
            rintro e ws1 ⟨rfl, hbs1⟩
            clear hcc
            replace hI3 := Lib.hid (hI3.out.below hbs1)
            replace hI5 := Lib.hid (hI5.out.below hbs1)
            replace hI6 := Lib.hid (hI6.out.below hbs1)
            replace hI8 := Lib.hid (hI8.out.below hbs1)
            replace hI9 := Lib.hid (hI9.out.below hbs1)
            replace hI14 := Lib.hid (hI14.out.below hbs1)
            replace hB := Lib.hid (hB.out.step hbs1)
            clear hbs1
            have hcc := Lib.hid (hsm'.out _ hI9.out)
            go_wp2_with fail
            refine hcc.out.mono ?_
            rintro e ws2 ⟨rfl, hbs2⟩
            clear hcc
            replace hI3 := Lib.hid (hI3.out.below hbs2)
            replace hI5 := Lib.hid (hI5.out.below hbs2)
            replace hI6 := Lib.hid (hI6.out.below hbs2)
            replace hI8 := Lib.hid (hI8.out.below hbs2)
            replace hI9 := Lib.hid (hI9.out.below hbs2)
            replace hI14 := Lib.hid (hI14.out.below hbs2)
            replace hB := Lib.hid (hB.out.step hbs2)
            clear hbs2
            clear hsm'
            by_cases hz7 : ac = 0
            · have z7a : (ac == 0) = true := beq_iff_eq.2 hz7
              have z7b : (ac != 0) = false := by simp [hz7]
              replace hz7 := Lib.hid hz7
              obtain ⟨⟨M, hM⟩, hsz⟩ := hL4.out al (by rw [hz7.out])
              replace hM := Lib.hid hM
              replace hsz := Lib.hid hsz
              go_wp2
              go_loopw [41] (fun i wz9 => ∃ k : Nat, k ≤ n14 ∧ i = .int .i64 k ∧ Below ws2.heap.size ws2 wz9) (fun i _ => n14 - (intOf i).toNat)
              case atStart => exact ⟨0, by omega, rfl, Below.refl _ _⟩
              case round =>
                rename World => wt
                obtain ⟨k, hk, rfl, hbw⟩ := hrel
                by_cases hlt : k < n14
                · obtain ⟨b, off, x, hA14, hbb, hx, d1⟩ := str_at (hI14.out.below hbw) hlt
                  obtain ⟨b', off', y, hA14', hbb', hy, d0⟩ := str_at (hI14.out.below hbw) (k := 0) (by omega)
                  rw [hA14] at hA14'
                  injection hA14' with hA14'
                  injection hA14' with e1 e2
                  subst e1 e2
                  rw [Nat.add_zero] at d0
                  subst hA14
                  have hpx := Lib.hid (fun W => f6point_any x (hsz.out x (List.mem_of_getElem? hx.out)) (hM.out x (List.mem_of_getElem? hx.out)) W)
                  have hpy := Lib.hid (fun W => f6point_any y (hsz.out y (List.mem_of_getElem? hy.out)) (hM.out y (List.mem_of_getElem? hy.out)) W)
                  have k0 : (0 : Int) ≤ (k : Int) := Int.natCast_nonneg _
                  have k1 : (k : Int) < (n14 : Int) := by omega
                  have k2 : (0 : Int) < (n14 : Int) := by omega
                  have k3 : 0 < n14 := by omega
                  have e5 : (M != M) = false := by simp
                  have hbw2 := Lib.hid hbw
                  clear hx hy
                  go_wp2_with fail
                  refine wp_region_held_drew (S := fun w' => Below wt.heap.size wt w' ∧ w'.cell? ⟨b, off + k, none⟩ = some (.string x) ∧ w'.cell? ⟨b, off, none⟩ = some (.string y)) (by kernel_rfl) ?_ (fun hHeld => ?_)
                  · exact ⟨(Below.refl _ _).drew, d1, d0⟩
                  refine wpAnyH_take (i := 0) (v := ?vtU1_0) rfl (by kernel_rfl) (by kernel_rfl) (by kernel_rfl) (fun _ _ _ h => h) (Or.inl ⟨rfl, ?ytU1_0⟩) (by assumption) ?_
                  case ytU1_0 => (intro w hSw; (try dsimp only at hSw); go_simp; first | done | with_reducible rfl)
                  simp only [List.getElem_toArray, List.getElem_cons_succ, List.getElem_cons_zero, Act.put, List.setIfInBounds_toArray, List.set_cons_zero, List.set_cons_succ]
                  refine wpAnyH_take (i := 1) (v := ?vtU1_1) rfl (by kernel_rfl) (by kernel_rfl) (by kernel_rfl) (fun _ _ _ h => h) (Or.inl ⟨rfl, ?ytU1_1⟩) (by assumption) ?_
                  case ytU1_1 => (intro w hSw; (try dsimp only at hSw); go_simp; first | done | with_reducible rfl)
                  simp only [List.getElem_toArray, List.getElem_cons_succ, List.getElem_cons_zero, Act.put, List.setIfInBounds_toArray, List.set_cons_zero, List.set_cons_succ]
                  refine wpAnyH_take (i := 2) (v := ?vtU1_2) rfl (by kernel_rfl) (by kernel_rfl) (by kernel_rfl) (fun _ _ _ h => h) (Or.inl ⟨rfl, ?ytU1_2⟩) (by assumption) ?_
                  case ytU1_2 => (intro w hSw; (try dsimp only at hSw); go_simp; first | done | with_reducible rfl)
                  simp only [List.getElem_toArray, List.getElem_cons_succ, List.getElem_cons_zero, Act.put, List.setIfInBounds_toArray, List.set_cons_zero, List.set_cons_succ]
                  refine wpAnyH_take (i := 3) (v := ?vtU1_3) rfl (by kernel_rfl) (by kernel_rfl) (by kernel_rfl) (fun _ _ _ h => h) (Or.inl ⟨rfl, ?ytU1_3⟩) (by assumption) ?_
                  case ytU1_3 => (intro w hSw; (try dsimp only at hSw); go_simp; first | done | with_reducible rfl)
                  simp only [List.getElem_toArray, List.getElem_cons_succ, List.getElem_cons_zero, Act.put, List.setIfInBounds_toArray, List.set_cons_zero, List.set_cons_succ]
                  refine wpAnyH_take (i := 5) (v := ?vtU1_5) rfl (by kernel_rfl) (by kernel_rfl) (by kernel_rfl) (fun _ _ _ h => h) (Or.inl ⟨rfl, ?ytU1_5⟩) (by assumption) ?_
                  case ytU1_5 => (intro w hSw; (try dsimp only at hSw); go_simp; first | done | with_reducible rfl)
                  simp only [List.getElem_toArray, List.getElem_cons_succ, List.getElem_cons_zero, Act.put, List.setIfInBounds_toArray, List.set_cons_zero, List.set_cons_succ]
                  refine wpAnyH_take (i := 6) (v := ?vtU1_6) rfl (by kernel_rfl) (by kernel_rfl) (by kernel_rfl) (fun _ _ _ h => h) (Or.inl ⟨rfl, ?ytU1_6⟩) (by assumption) ?_
                  case ytU1_6 => (intro w hSw; (try dsimp only at hSw); go_simp; first | done | with_reducible rfl)
                  simp only [List.getElem_toArray, List.getElem_cons_succ, List.getElem_cons_zero, Act.put, List.setIfInBounds_toArray, List.set_cons_zero, List.set_cons_succ]
                  refine wpAnyH_take (i := 7) (v := ?vtU1_7) rfl (by kernel_rfl) (by kernel_rfl) (by kernel_rfl) (fun _ _ _ h => h) (Or.inl ⟨rfl, ?ytU1_7⟩) (by assumption) ?_
                  case ytU1_7 => (intro w hSw; (try dsimp only at hSw); go_simp; first | done | with_reducible rfl)
                  simp only [List.getElem_toArray, List.getElem_cons_succ, List.getElem_cons_zero, Act.put, List.setIfInBounds_toArray, List.set_cons_zero, List.set_cons_succ]
                  refine wpAnyH_ready (rs := [4]) (by kernel_rfl) (by simp) ?_
                  refine AllReadyH.cons rfl (fun K hK => ?_) AllReadyH.nil
                  go_simp
                  refine (hpx.out _).mono ?_
                  rintro e w1 ⟨rfl, hb1⟩
                  go_wp2_with fail
                  refine hK.out _ _ ?_ (fun hHeld => ?_)
                  · exact keep3 (by assumption) hb1
                  clear hK K hb1
                  try simp only [List.getElem_toArray, List.getElem_cons_succ, List.getElem_cons_zero, Act.put, List.setIfInBounds_toArray, List.set_cons_zero, List.set_cons_succ]
                  refine wpAnyH_ready (rs := [8]) (by kernel_rfl) (by simp) ?_
                  refine AllReadyH.cons rfl (fun K hK => ?_) AllReadyH.nil
                  go_simp
                  refine (hpy.out _).mono ?_
                  rintro e w1 ⟨rfl, hb1⟩
                  go_wp2_with fail
                  refine hK.out _ _ ?_ (fun hHeld => ?_)
                  · exact keep3 (by assumption) hb1
                  clear hK K hb1
                  try simp only [List.getElem_toArray, List.getElem_cons_succ, List.getElem_cons_zero, Act.put, List.setIfInBounds_toArray, List.set_cons_zero, List.set_cons_succ]
                  refine wpAnyH_take (i := 9) (v := ?vtU1_9) rfl (by kernel_rfl) (by kernel_rfl) (by kernel_rfl) (fun _ _ _ h => h) (Or.inl ⟨rfl, ?ytU1_9⟩) (by assumption) ?_
                  case ytU1_9 => (intro w hSw; (try dsimp only at hSw); go_simp; first | done | with_reducible rfl)
                  simp only [List.getElem_toArray, List.getElem_cons_succ, List.getElem_cons_zero, Act.put, List.setIfInBounds_toArray, List.set_cons_zero, List.set_cons_succ]
                  refine wpAnyH_done (by kernel_rfl) ?_ _
                  have hbw3 := Lib.hid (hbw2.out.step hHeld.1)
                  go_wp2
                  go_roundw
                  case rel => exact ⟨k + 1, by omega, by go_num, hbw3.out⟩
                  case measure => simp [intOf]; omega
                · clear hM hsz
                  replace hI3 := Lib.hid (hI3.out.below hbw)
                  replace hI5 := Lib.hid (hI5.out.below hbw)
                  replace hI6 := Lib.hid (hI6.out.below hbw)
                  replace hI8 := Lib.hid (hI8.out.below hbw)
                  replace hI9 := Lib.hid (hI9.out.below hbw)
                  replace hI14 := Lib.hid (hI14.out.below hbw)
                  replace hB := Lib.hid (hB.out.step hbw)
                  clear hbw
                  by_cases hzb : tc = 0
                  · have zba : (tc == 0) = true := beq_iff_eq.2 hzb
                    have zbb : (tc != 0) = false := by simp [hzb]
                    replace hzb := Lib.hid hzb
                    obtain ⟨c1', c2', c3', c4', c5', c6', c7'⟩ := hL1.out tl (by rw [hzb.out])
                    have hcl : cl = widL (colsN R) R := (Prod.mk.inj c1').1
                    rw [← hcl] at c3' c4' c7'
                    have hl5 := hI5.out.1
                    rw [hl5] at c3' c7'
                    have hlen : n3 = n1 := by rw [← hI3.out.1, c2', hRl.out]
                    have hsm := Lib.hid (fun W (hW : Ints W A5 n5 cl) => f6sum_any A5 n5 c5 cl c3' c4' W hW rfl)
                    have hs0 := sumI_range cl c4'
                    rw [hl5] at hs0
                    have hq0 : 0 ≤ gp * ((n5 : Int) - 1) ∨ n5 = 0 := by
                      by_cases h5 : n5 = 0
                      · exact .inr h5
                      · exact .inl (Int.mul_nonneg (by omega) (by omega))
                    have hq1 : gp * ((n5 : Int) - 1) ≤ 20 * 12 := by
                      by_cases h5 : n5 = 0
                      · subst h5
                        omega
                      · exact Int.mul_le_mul (by omega) (by omega) (by omega) (by omega)
                    have hq2 : -20 ≤ gp * ((n5 : Int) - 1) := by
                      rcases hq0 with h | h
                      · omega
                      · subst h
                        omega
                    have hw1 : IntKind.i64.wrap ((n5 : Int) - 1) = (n5 : Int) - 1 := IntWalk.i64_in _ (by omega)
                    have hw2 : IntKind.i64.wrap (gp * ((n5 : Int) - 1)) = gp * ((n5 : Int) - 1) := IntWalk.i64_in _ (by omega)
                    have hw3 : IntKind.i64.wrap (sumI cl + gp * ((n5 : Int) - 1)) = sumI cl + gp * ((n5 : Int) - 1) := IntWalk.i64_in _ (by omega)
                    replace c7' := Lib.hid c7'
                    replace hlen := Lib.hid hlen
                    generalize hX : gp * ((n5 : Int) - 1) = X at *
                    generalize hY : sumI cl = Y at *
                    have hw2' : IntKind.i64.wrap (gp * ((n5 : Int) - 1)) = X := by rw [hX]; exact hw2
                    clear hw2
                    replace hX := Lib.hid hX
                    replace hY := Lib.hid hY
                    clear c1' c2' c3' c4' c5' c6' hcl hl5 hs0 hq0 hq1 hq2
                    go_wp2
                    go_loopw [42] (fun i wz9 => ∃ k : Nat, k ≤ n3 ∧ i = .int .i64 k ∧ Below wt.heap.size wt wz9) (fun i _ => n3 - (intOf i).toNat)
                    case atStart => exact ⟨0, by omega, rfl, Below.refl _ _⟩
                    case round =>
                      rename World => wv
                      obtain ⟨k, hk, rfl, hbw⟩ := hrel
                      by_cases hlt : k < n3
                      · obtain ⟨b, off, x, hA3, hbb, hx, d1⟩ := str_at (hI3.out.below hbw) hlt
                        subst hA3
                        have hI5v := Lib.hid (hI5.out.below hbw)
                        have hxs := c7'.out x (List.mem_of_getElem? hx.out)
                        have hw4 : IntKind.i64.wrap (Y + X) = (x.size : Int) := by rw [hw3, hxs]
                        clear hw3
                        have e5 : ((x.size : Int) != (x.size : Int)) = false := by simp
                        have k0 : (0 : Int) ≤ (k : Int) := Int.natCast_nonneg _
                        have k1 : (k : Int) < (n3 : Int) := by omega
                        have hbw2 := Lib.hid hbw
                        clear hx hxs
                        go_wp2_with fail
                        refine wp_region_held_drew (S := fun w' => Below wv.heap.size wv w' ∧ w'.cell? ⟨b, off + k, none⟩ = some (.string x)) (by kernel_rfl) ?_ (fun hHeld => ?_)
                        · exact ⟨(Below.refl _ _).drew, d1⟩
                        refine wpAnyH_take (i := 0) (v := ?vvU2_0) rfl (by kernel_rfl) (by kernel_rfl) (by kernel_rfl) (fun _ _ _ h => h) (Or.inl ⟨rfl, ?yvU2_0⟩) (by assumption) ?_
                        case yvU2_0 => (intro w hSw; (try dsimp only at hSw); go_simp; first | done | with_reducible rfl)
                        simp only [List.getElem_toArray, List.getElem_cons_succ, List.getElem_cons_zero, Act.put, List.setIfInBounds_toArray, List.set_cons_zero, List.set_cons_succ]
                        refine wpAnyH_take (i := 1) (v := ?vvU2_1) rfl (by kernel_rfl) (by kernel_rfl) (by kernel_rfl) (fun _ _ _ h => h) (Or.inl ⟨rfl, ?yvU2_1⟩) (by assumption) ?_
                        case yvU2_1 => (intro w hSw; (try dsimp only at hSw); go_simp; first | done | with_reducible rfl)
                        simp only [List.getElem_toArray, List.getElem_cons_succ, List.getElem_cons_zero, Act.put, List.setIfInBounds_toArray, List.set_cons_zero, List.set_cons_succ]
                        refine wpAnyH_take (i := 2) (v := ?vvU2_2) rfl (by kernel_rfl) (by kernel_rfl) (by kernel_rfl) (fun _ _ _ h => h) (Or.inl ⟨rfl, ?yvU2_2⟩) (by assumption) ?_
                        case yvU2_2 => (intro w hSw; (try dsimp only at hSw); go_simp; first | done | with_reducible rfl)
                        simp only [List.getElem_toArray, List.getElem_cons_succ, List.getElem_cons_zero, Act.put, List.setIfInBounds_toArray, List.set_cons_zero, List.set_cons_succ]
                        refine wpAnyH_take (i := 3) (v := ?vvU2_3) rfl (by kernel_rfl) (by kernel_rfl) (by kernel_rfl) (fun _ _ _ h => h) (Or.inl ⟨rfl, ?yvU2_3⟩) (by assumption) ?_
                        case yvU2_3 => (intro w hSw; (try dsimp only at hSw); go_simp; first | done | with_reducible rfl)
                        simp only [List.getElem_toArray, List.getElem_cons_succ, List.getElem_cons_zero, Act.put, List.setIfInBounds_toArray, List.set_cons_zero, List.set_cons_succ]
                        refine wpAnyH_take (i := 4) (v := ?vvU2_4) rfl (by kernel_rfl) (by kernel_rfl) (by kernel_rfl) (fun _ _ _ h => h) (Or.inl ⟨rfl, ?yvU2_4⟩) (by assumption) ?_
                        case yvU2_4 => (intro w hSw; (try dsimp only at hSw); go_simp; first | done | with_reducible rfl)
                        simp only [List.getElem_toArray, List.getElem_cons_succ, List.getElem_cons_zero, Act.put, List.setIfInBounds_toArray, List.set_cons_zero, List.set_cons_succ]
                        refine wpAnyH_take (i := 5) (v := ?vvU2_5) rfl (by kernel_rfl) (by kernel_rfl) (by kernel_rfl) (fun _ _ _ h => h) (Or.inl ⟨rfl, ?yvU2_5⟩) (by assumption) ?_
                        case yvU2_5 => (intro w hSw; (try dsimp only at hSw); go_simp; first | done | with_reducible rfl)
                        simp only [List.getElem_toArray, List.getElem_cons_succ, List.getElem_cons_zero, Act.put, List.setIfInBounds_toArray, List.set_cons_zero, List.set_cons_succ]
                        refine wpAnyH_take (i := 7) (v := ?vvU2_7) rfl (by kernel_rfl) (by kernel_rfl) (by kernel_rfl) (fun _ _ _ h => h) (Or.inl ⟨rfl, ?yvU2_7⟩) (by assumption) ?_
                        case yvU2_7 => (intro w hSw; (try dsimp only at hSw); go_simp; first | done | with_reducible rfl)
                        simp only [List.getElem_toArray, List.getElem_cons_succ, List.getElem_cons_zero, Act.put, List.setIfInBounds_toArray, List.set_cons_zero, List.set_cons_succ]
                        refine wpAnyH_take (i := 8) (v := ?vvU2_8) rfl (by kernel_rfl) (by kernel_rfl) (by kernel_rfl) (fun _ _ _ h => h) (Or.inl ⟨rfl, ?yvU2_8⟩) (by assumption) ?_
                        case yvU2_8 => (intro w hSw; (try dsimp only at hSw); go_simp; first | done | with_reducible rfl)
                        simp only [List.getElem_toArray, List.getElem_cons_succ, List.getElem_cons_zero, Act.put, List.setIfInBounds_toArray, List.set_cons_zero, List.set_cons_succ]
                        refine wpAnyH_take (i := 9) (v := ?vvU2_9) rfl (by kernel_rfl) (by kernel_rfl) (by kernel_rfl) (fun _ _ _ h => h) (Or.inl ⟨rfl, ?yvU2_9⟩) (by assumption) ?_
                        case yvU2_9 => (intro w hSw; (try dsimp only at hSw); go_simp; first | done | with_reducible rfl)
                        simp only [List.getElem_toArray, List.getElem_cons_succ, List.getElem_cons_zero, Act.put, List.setIfInBounds_toArray, List.set_cons_zero, List.set_cons_succ]
                        refine wpAnyH_take (i := 10) (v := ?vvU2_10) rfl (by kernel_rfl) (by kernel_rfl) (by kernel_rfl) (fun _ _ _ h => h) (Or.inl ⟨rfl, ?yvU2_10⟩) (by assumption) ?_
                        case yvU2_10 => (intro w hSw; (try dsimp only at hSw); go_simp; first | done | with_reducible rfl)
                        simp only [List.getElem_toArray, List.getElem_cons_succ, List.getElem_cons_zero, Act.put, List.setIfInBounds_toArray, List.set_cons_zero, List.set_cons_succ]
                        refine wpAnyH_take (i := 11) (v := ?vvU2_11) rfl (by kernel_rfl) (by kernel_rfl) (by kernel_rfl) (fun _ _ _ h => h) (Or.inl ⟨rfl, ?yvU2_11⟩) (by assumption) ?_
                        case yvU2_11 => (intro w hSw; (try dsimp only at hSw); go_simp; first | done | with_reducible rfl)
                        simp only [List.getElem_toArray, List.getElem_cons_succ, List.getElem_cons_zero, Act.put, List.setIfInBounds_toArray, List.set_cons_zero, List.set_cons_succ]
                        refine wpAnyH_ready (rs := [6]) (by kernel_rfl) (by simp) ?_
                        refine AllReadyH.cons rfl (fun K hK => ?_) AllReadyH.nil
                        go_simp
                        refine (hsm.out _ (hI5v.out.below hHeld.1)).mono ?_
                        rintro e w1 ⟨rfl, hb1⟩
                        go_wp2_with fail
                        refine hK.out _ _ ?_ (fun hHeld => ?_)
                        · exact keep2 (by assumption) hb1
                        clear hK K hb1
                        try simp only [List.getElem_toArray, List.getElem_cons_succ, List.getElem_cons_zero, Act.put, List.setIfInBounds_toArray, List.set_cons_zero, List.set_cons_succ]
                        refine wpAnyH_take (i := 12) (v := ?vvU2_12) rfl (by kernel_rfl) (by kernel_rfl) (by kernel_rfl) (fun _ _ _ h => h) (Or.inl ⟨rfl, ?yvU2_12⟩) (by assumption) ?_
                        case yvU2_12 => (intro w hSw; (try dsimp only at hSw); go_simp; first | done | with_reducible rfl)
                        simp only [List.getElem_toArray, List.getElem_cons_succ, List.getElem_cons_zero, Act.put, List.setIfInBounds_toArray, List.set_cons_zero, List.set_cons_succ]
                        refine wpAnyH_take (i := 13) (v := ?vvU2_13) rfl (by kernel_rfl) (by kernel_rfl) (by kernel_rfl) (fun _ _ _ h => h) (Or.inl ⟨rfl, ?yvU2_13⟩) (by assumption) ?_
                        case yvU2_13 => (intro w hSw; (try dsimp only at hSw); go_simp; first | done | with_reducible rfl)
                        simp only [List.getElem_toArray, List.getElem_cons_succ, List.getElem_cons_zero, Act.put, List.setIfInBounds_toArray, List.set_cons_zero, List.set_cons_succ]
                        refine wpAnyH_done (by kernel_rfl) ?_ _
                        have hbw3 := Lib.hid (hbw2.out.step hHeld.1)
                        go_wp2
                        go_roundw
                        case rel => exact ⟨k + 1, by omega, by go_num, hbw3.out⟩
                        case measure => simp [intOf]; omega
                      · have hbf := Lib.hid (hB.out.step hbw)
                        have e7 : ((n3 : Int) == (n1 : Int)) = true := beq_iff_eq.2 (by have := hlen.out; omega)
                        have e8 : (n3 == n1) = true := beq_iff_eq.2 hlen.out
                        go_wp2
                        go_ret
                        exact ⟨rfl, hbf.out⟩
                  · have zba : (tc == 0) = false := beq_eq_false_iff_ne.2 hzb
                    have zbb : (tc != 0) = true := by simp [hzb]
                    replace hzb := Lib.hid hzb
                    go_wp2
                    go_ret
                    exact ⟨rfl, hB.out⟩
            · have z7a : (ac == 0) = false := beq_eq_false_iff_ne.2 hz7
              have z7b : (ac != 0) = true := by simp [hz7]
              replace hz7 := Lib.hid hz7
              by_cases hzb : tc = 0
              · have zba : (tc == 0) = true := beq_iff_eq.2 hzb
                have zbb : (tc != 0) = false := by simp [hzb]
                replace hzb := Lib.hid hzb
                obtain ⟨c1', c2', c3', c4', c5', c6', c7'⟩ := hL1.out tl (by rw [hzb.out])
                have hcl : cl = widL (colsN R) R := (Prod.mk.inj c1').1
                rw [← hcl] at c3' c4' c7'
                have hl5 := hI5.out.1
                rw [hl5] at c3' c7'
                have hlen : n3 = n1 := by rw [← hI3.out.1, c2', hRl.out]
                have hsm := Lib.hid (fun W (hW : Ints W A5 n5 cl) => f6sum_any A5 n5 c5 cl c3' c4' W hW rfl)
                have hs0 := sumI_range cl c4'
                rw [hl5] at hs0
                have hq0 : 0 ≤ gp * ((n5 : Int) - 1) ∨ n5 = 0 := by
                  by_cases h5 : n5 = 0
                  · exact .inr h5
                  · exact .inl (Int.mul_nonneg (by omega) (by omega))
                have hq1 : gp * ((n5 : Int) - 1) ≤ 20 * 12 := by
                  by_cases h5 : n5 = 0
                  · subst h5
                    omega
                  · exact Int.mul_le_mul (by omega) (by omega) (by omega) (by omega)
                have hq2 : -20 ≤ gp * ((n5 : Int) - 1) := by
                  rcases hq0 with h | h
                  · omega
                  · subst h
                    omega
                have hw1 : IntKind.i64.wrap ((n5 : Int) - 1) = (n5 : Int) - 1 := IntWalk.i64_in _ (by omega)
                have hw2 : IntKind.i64.wrap (gp * ((n5 : Int) - 1)) = gp * ((n5 : Int) - 1) := IntWalk.i64_in _ (by omega)
                have hw3 : IntKind.i64.wrap (sumI cl + gp * ((n5 : Int) - 1)) = sumI cl + gp * ((n5 : Int) - 1) := IntWalk.i64_in _ (by omega)
                replace c7' := Lib.hid c7'
                replace hlen := Lib.hid hlen
                generalize hX : gp * ((n5 : Int) - 1) = X at *
                generalize hY : sumI cl = Y at *
                have hw2' : IntKind.i64.wrap (gp * ((n5 : Int) - 1)) = X := by rw [hX]; exact hw2
                clear hw2
                replace hX := Lib.hid hX
                replace hY := Lib.hid hY
                clear c1' c2' c3' c4' c5' c6' hcl hl5 hs0 hq0 hq1 hq2
                go_wp2
                go_loopw [42] (fun i wz9 => ∃ k : Nat, k ≤ n3 ∧ i = .int .i64 k ∧ Below ws2.heap.size ws2 wz9) (fun i _ => n3 - (intOf i).toNat)
                case atStart => exact ⟨0, by omega, rfl, Below.refl _ _⟩
                case round =>
                  rename World => wv
                  obtain ⟨k, hk, rfl, hbw⟩ := hrel
                  by_cases hlt : k < n3
                  · obtain ⟨b, off, x, hA3, hbb, hx, d1⟩ := str_at (hI3.out.below hbw) hlt
                    subst hA3
                    have hI5v := Lib.hid (hI5.out.below hbw)
                    have hxs := c7'.out x (List.mem_of_getElem? hx.out)
                    have hw4 : IntKind.i64.wrap (Y + X) = (x.size : Int) := by rw [hw3, hxs]
                    clear hw3
                    have e5 : ((x.size : Int) != (x.size : Int)) = false := by simp
                    have k0 : (0 : Int) ≤ (k : Int) := Int.natCast_nonneg _
                    have k1 : (k : Int) < (n3 : Int) := by omega
                    have hbw2 := Lib.hid hbw
                    clear hx hxs
                    go_wp2_with fail
                    refine wp_region_held_drew (S := fun w' => Below wv.heap.size wv w' ∧ w'.cell? ⟨b, off + k, none⟩ = some (.string x)) (by kernel_rfl) ?_ (fun hHeld => ?_)
                    · exact ⟨(Below.refl _ _).drew, d1⟩
                    refine wpAnyH_take (i := 0) (v := ?vvU3_0) rfl (by kernel_rfl) (by kernel_rfl) (by kernel_rfl) (fun _ _ _ h => h) (Or.inl ⟨rfl, ?yvU3_0⟩) (by assumption) ?_
                    case yvU3_0 => (intro w hSw; (try dsimp only at hSw); go_simp; first | done | with_reducible rfl)
                    simp only [List.getElem_toArray, List.getElem_cons_succ, List.getElem_cons_zero, Act.put, List.setIfInBounds_toArray, List.set_cons_zero, List.set_cons_succ]
                    refine wpAnyH_take (i := 1) (v := ?vvU3_1) rfl (by kernel_rfl) (by kernel_rfl) (by kernel_rfl) (fun _ _ _ h => h) (Or.inl ⟨rfl, ?yvU3_1⟩) (by assumption) ?_
                    case yvU3_1 => (intro w hSw; (try dsimp only at hSw); go_simp; first | done | with_reducible rfl)
                    simp only [List.getElem_toArray, List.getElem_cons_succ, List.getElem_cons_zero, Act.put, List.setIfInBounds_toArray, List.set_cons_zero, List.set_cons_succ]
                    refine wpAnyH_take (i := 2) (v := ?vvU3_2) rfl (by kernel_rfl) (by kernel_rfl) (by kernel_rfl) (fun _ _ _ h => h) (Or.inl ⟨rfl, ?yvU3_2⟩) (by assumption) ?_
                    case yvU3_2 => (intro w hSw; (try dsimp only at hSw); go_simp; first | done | with_reducible rfl)
                    simp only [List.getElem_toArray, List.getElem_cons_succ, List.getElem_cons_zero, Act.put, List.setIfInBounds_toArray, List.set_cons_zero, List.set_cons_succ]
                    refine wpAnyH_take (i := 3) (v := ?vvU3_3) rfl (by kernel_rfl) (by kernel_rfl) (by kernel_rfl) (fun _ _ _ h => h) (Or.inl ⟨rfl, ?yvU3_3⟩) (by assumption) ?_
                    case yvU3_3 => (intro w hSw; (try dsimp only at hSw); go_simp; first | done | with_reducible rfl)
                    simp only [List.getElem_toArray, List.getElem_cons_succ, List.getElem_cons_zero, Act.put, List.setIfInBounds_toArray, List.set_cons_zero, List.set_cons_succ]
                    refine wpAnyH_take (i := 4) (v := ?vvU3_4) rfl (by kernel_rfl) (by kernel_rfl) (by kernel_rfl) (fun _ _ _ h => h) (Or.inl ⟨rfl, ?yvU3_4⟩) (by assumption) ?_
                    case yvU3_4 => (intro w hSw; (try dsimp only at hSw); go_simp; first | done | with_reducible rfl)
                    simp only [List.getElem_toArray, List.getElem_cons_succ, List.getElem_cons_zero, Act.put, List.setIfInBounds_toArray, List.set_cons_zero, List.set_cons_succ]
                    refine wpAnyH_take (i := 5) (v := ?vvU3_5) rfl (by kernel_rfl) (by kernel_rfl) (by kernel_rfl) (fun _ _ _ h => h) (Or.inl ⟨rfl, ?yvU3_5⟩) (by assumption) ?_
                    case yvU3_5 => (intro w hSw; (try dsimp only at hSw); go_simp; first | done | with_reducible rfl)
                    simp only [List.getElem_toArray, List.getElem_cons_succ, List.getElem_cons_zero, Act.put, List.setIfInBounds_toArray, List.set_cons_zero, List.set_cons_succ]
                    refine wpAnyH_take (i := 7) (v := ?vvU3_7) rfl (by kernel_rfl) (by kernel_rfl) (by kernel_rfl) (fun _ _ _ h => h) (Or.inl ⟨rfl, ?yvU3_7⟩) (by assumption) ?_
                    case yvU3_7 => (intro w hSw; (try dsimp only at hSw); go_simp; first | done | with_reducible rfl)
                    simp only [List.getElem_toArray, List.getElem_cons_succ, List.getElem_cons_zero, Act.put, List.setIfInBounds_toArray, List.set_cons_zero, List.set_cons_succ]
                    refine wpAnyH_take (i := 8) (v := ?vvU3_8) rfl (by kernel_rfl) (by kernel_rfl) (by kernel_rfl) (fun _ _ _ h => h) (Or.inl ⟨rfl, ?yvU3_8⟩) (by assumption) ?_
                    case yvU3_8 => (intro w hSw; (try dsimp only at hSw); go_simp; first | done | with_reducible rfl)
                    simp only [List.getElem_toArray, List.getElem_cons_succ, List.getElem_cons_zero, Act.put, List.setIfInBounds_toArray, List.set_cons_zero, List.set_cons_succ]
                    refine wpAnyH_take (i := 9) (v := ?vvU3_9) rfl (by kernel_rfl) (by kernel_rfl) (by kernel_rfl) (fun _ _ _ h => h) (Or.inl ⟨rfl, ?yvU3_9⟩) (by assumption) ?_
                    case yvU3_9 => (intro w hSw; (try dsimp only at hSw); go_simp; first | done | with_reducible rfl)
                    simp only [List.getElem_toArray, List.getElem_cons_succ, List.getElem_cons_zero, Act.put, List.setIfInBounds_toArray, List.set_cons_zero, List.set_cons_succ]
                    refine wpAnyH_take (i := 10) (v := ?vvU3_10) rfl (by kernel_rfl) (by kernel_rfl) (by kernel_rfl) (fun _ _ _ h => h) (Or.inl ⟨rfl, ?yvU3_10⟩) (by assumption) ?_
                    case yvU3_10 => (intro w hSw; (try dsimp only at hSw); go_simp; first | done | with_reducible rfl)
                    simp only [List.getElem_toArray, List.getElem_cons_succ, List.getElem_cons_zero, Act.put, List.setIfInBounds_toArray, List.set_cons_zero, List.set_cons_succ]
                    refine wpAnyH_take (i := 11) (v := ?vvU3_11) rfl (by kernel_rfl) (by kernel_rfl) (by kernel_rfl) (fun _ _ _ h => h) (Or.inl ⟨rfl, ?yvU3_11⟩) (by assumption) ?_
                    case yvU3_11 => (intro w hSw; (try dsimp only at hSw); go_simp; first | done | with_reducible rfl)
                    simp only [List.getElem_toArray, List.getElem_cons_succ, List.getElem_cons_zero, Act.put, List.setIfInBounds_toArray, List.set_cons_zero, List.set_cons_succ]
                    refine wpAnyH_ready (rs := [6]) (by kernel_rfl) (by simp) ?_
                    refine AllReadyH.cons rfl (fun K hK => ?_) AllReadyH.nil
                    go_simp
                    refine (hsm.out _ (hI5v.out.below hHeld.1)).mono ?_
                    rintro e w1 ⟨rfl, hb1⟩
                    go_wp2_with fail
                    refine hK.out _ _ ?_ (fun hHeld => ?_)
                    · exact keep2 (by assumption) hb1
                    clear hK K hb1
                    try simp only [List.getElem_toArray, List.getElem_cons_succ, List.getElem_cons_zero, Act.put, List.setIfInBounds_toArray, List.set_cons_zero, List.set_cons_succ]
                    refine wpAnyH_take (i := 12) (v := ?vvU3_12) rfl (by kernel_rfl) (by kernel_rfl) (by kernel_rfl) (fun _ _ _ h => h) (Or.inl ⟨rfl, ?yvU3_12⟩) (by assumption) ?_
                    case yvU3_12 => (intro w hSw; (try dsimp only at hSw); go_simp; first | done | with_reducible rfl)
                    simp only [List.getElem_toArray, List.getElem_cons_succ, List.getElem_cons_zero, Act.put, List.setIfInBounds_toArray, List.set_cons_zero, List.set_cons_succ]
                    refine wpAnyH_take (i := 13) (v := ?vvU3_13) rfl (by kernel_rfl) (by kernel_rfl) (by kernel_rfl) (fun _ _ _ h => h) (Or.inl ⟨rfl, ?yvU3_13⟩) (by assumption) ?_
                    case yvU3_13 => (intro w hSw; (try dsimp only at hSw); go_simp; first | done | with_reducible rfl)
                    simp only [List.getElem_toArray, List.getElem_cons_succ, List.getElem_cons_zero, Act.put, List.setIfInBounds_toArray, List.set_cons_zero, List.set_cons_succ]
                    refine wpAnyH_done (by kernel_rfl) ?_ _
                    have hbw3 := Lib.hid (hbw2.out.step hHeld.1)
                    go_wp2
                    go_roundw
                    case rel => exact ⟨k + 1, by omega, by go_num, hbw3.out⟩
                    case measure => simp [intOf]; omega
                  · have hbf := Lib.hid (hB.out.step hbw)
                    have e7 : ((n3 : Int) == (n1 : Int)) = true := beq_iff_eq.2 (by have := hlen.out; omega)
                    have e8 : (n3 == n1) = true := beq_iff_eq.2 hlen.out
                    go_wp2
                    go_ret
                    exact ⟨rfl, hbf.out⟩
              · have zba : (tc == 0) = false := beq_eq_false_iff_ne.2 hzb
                have zbb : (tc != 0) = true := by simp [hzb]
                replace hzb := Lib.hid hzb
                go_wp2
                go_ret
                exact ⟨rfl, hB.out⟩
          · have z5a : (gc == 0) = false := beq_eq_false_iff_ne.2 hz5
            have z5b : (gc != 0) = true := by simp [hz5]
            replace hz5 := Lib.hid hz5
            by_cases hz7 : ac = 0
            · have z7a : (ac == 0) = true := beq_iff_eq.2 hz7
              have z7b : (ac != 0) = false := by simp [hz7]
              replace hz7 := Lib.hid hz7
              obtain ⟨⟨M, hM⟩, hsz⟩ := hL4.out al (by rw [hz7.out])
              replace hM := Lib.hid hM
              replace hsz := Lib.hid hsz
              go_wp2
              go_loopw [41] (fun i wz9 => ∃ k : Nat, k ≤ n14 ∧ i = .int .i64 k ∧ Below wr.heap.size wr wz9) (fun i _ => n14 - (intOf i).toNat)
              case atStart => exact ⟨0, by omega, rfl, Below.refl _ _⟩
              case round =>
                rename World => wt
                obtain ⟨k, hk, rfl, hbw⟩ := hrel
                by_cases hlt : k < n14
                · obtain ⟨b, off, x, hA14, hbb, hx, d1⟩ := str_at (hI14.out.below hbw) hlt
                  obtain ⟨b', off', y, hA14', hbb', hy, d0⟩ := str_at (hI14.out.below hbw) (k := 0) (by omega)
                  rw [hA14] at hA14'
                  injection hA14' with hA14'
                  injection hA14' with e1 e2
                  subst e1 e2
                  rw [Nat.add_zero] at d0
                  subst hA14
                  have hpx := Lib.hid (fun W => f6point_any x (hsz.out x (List.mem_of_getElem? hx.out)) (hM.out x (List.mem_of_getElem? hx.out)) W)
                  have hpy := Lib.hid (fun W => f6point_any y (hsz.out y (List.mem_of_getElem? hy.out)) (hM.out y (List.mem_of_getElem? hy.out)) W)
                  have k0 : (0 : Int) ≤ (k : Int) := Int.natCast_nonneg _
                  have k1 : (k : Int) < (n14 : Int) := by omega
                  have k2 : (0 : Int) < (n14 : Int) := by omega
                  have k3 : 0 < n14 := by omega
                  have e5 : (M != M) = false := by simp
                  have hbw2 := Lib.hid hbw
                  clear hx hy
                  go_wp2_with fail
                  refine wp_region_held_drew (S := fun w' => Below wt.heap.size wt w' ∧ w'.cell? ⟨b, off + k, none⟩ = some (.string x) ∧ w'.cell? ⟨b, off, none⟩ = some (.string y)) (by kernel_rfl) ?_ (fun hHeld => ?_)
                  · exact ⟨(Below.refl _ _).drew, d1, d0⟩
                  refine wpAnyH_take (i := 0) (v := ?vtU4_0) rfl (by kernel_rfl) (by kernel_rfl) (by kernel_rfl) (fun _ _ _ h => h) (Or.inl ⟨rfl, ?ytU4_0⟩) (by assumption) ?_
                  case ytU4_0 => (intro w hSw; (try dsimp only at hSw); go_simp; first | done | with_reducible rfl)
                  simp only [List.getElem_toArray, List.getElem_cons_succ, List.getElem_cons_zero, Act.put, List.setIfInBounds_toArray, List.set_cons_zero, List.set_cons_succ]
                  refine wpAnyH_take (i := 1) (v := ?vtU4_1) rfl (by kernel_rfl) (by kernel_rfl) (by kernel_rfl) (fun _ _ _ h => h) (Or.inl ⟨rfl, ?ytU4_1⟩) (by assumption) ?_
                  case ytU4_1 => (intro w hSw; (try dsimp only at hSw); go_simp; first | done | with_reducible rfl)
                  simp only [List.getElem_toArray, List.getElem_cons_succ, List.getElem_cons_zero, Act.put, List.setIfInBounds_toArray, List.set_cons_zero, List.set_cons_succ]
                  refine wpAnyH_take (i := 2) (v := ?vtU4_2) rfl (by kernel_rfl) (by kernel_rfl) (by kernel_rfl) (fun _ _ _ h => h) (Or.inl ⟨rfl, ?ytU4_2⟩) (by assumption) ?_
                  case ytU4_2 => (intro w hSw; (try dsimp only at hSw); go_simp; first | done | with_reducible rfl)
                  simp only [List.getElem_toArray, List.getElem_cons_succ, List.getElem_cons_zero, Act.put, List.setIfInBounds_toArray, List.set_cons_zero, List.set_cons_succ]
                  refine wpAnyH_take (i := 3) (v := ?vtU4_3) rfl (by kernel_rfl) (by kernel_rfl) (by kernel_rfl) (fun _ _ _ h => h) (Or.inl ⟨rfl, ?ytU4_3⟩) (by assumption) ?_
                  case ytU4_3 => (intro w hSw; (try dsimp only at hSw); go_simp; first | done | with_reducible rfl)
                  simp only [List.getElem_toArray, List.getElem_cons_succ, List.getElem_cons_zero, Act.put, List.setIfInBounds_toArray, List.set_cons_zero, List.set_cons_succ]
                  refine wpAnyH_take (i := 5) (v := ?vtU4_5) rfl (by kernel_rfl) (by kernel_rfl) (by kernel_rfl) (fun _ _ _ h => h) (Or.inl ⟨rfl, ?ytU4_5⟩) (by assumption) ?_
                  case ytU4_5 => (intro w hSw; (try dsimp only at hSw); go_simp; first | done | with_reducible rfl)
                  simp only [List.getElem_toArray, List.getElem_cons_succ, List.getElem_cons_zero, Act.put, List.setIfInBounds_toArray, List.set_cons_zero, List.set_cons_succ]
                  refine wpAnyH_take (i := 6) (v := ?vtU4_6) rfl (by kernel_rfl) (by kernel_rfl) (by kernel_rfl) (fun _ _ _ h => h) (Or.inl ⟨rfl, ?ytU4_6⟩) (by assumption) ?_
                  case ytU4_6 => (intro w hSw; (try dsimp only at hSw); go_simp; first | done | with_reducible rfl)
                  simp only [List.getElem_toArray, List.getElem_cons_succ, List.getElem_cons_zero, Act.put, List.setIfInBounds_toArray, List.set_cons_zero, List.set_cons_succ]
                  refine wpAnyH_take (i := 7) (v := ?vtU4_7) rfl (by kernel_rfl) (by kernel_rfl) (by kernel_rfl) (fun _ _ _ h => h) (Or.inl ⟨rfl, ?ytU4_7⟩) (by assumption) ?_
                  case ytU4_7 => (intro w hSw; (try dsimp only at hSw); go_simp; first | done | with_reducible rfl)
                  simp only [List.getElem_toArray, List.getElem_cons_succ, List.getElem_cons_zero, Act.put, List.setIfInBounds_toArray, List.set_cons_zero, List.set_cons_succ]
                  refine wpAnyH_ready (rs := [4]) (by kernel_rfl) (by simp) ?_
                  refine AllReadyH.cons rfl (fun K hK => ?_) AllReadyH.nil
                  go_simp
                  refine (hpx.out _).mono ?_
                  rintro e w1 ⟨rfl, hb1⟩
                  go_wp2_with fail
                  refine hK.out _ _ ?_ (fun hHeld => ?_)
                  · exact keep3 (by assumption) hb1
                  clear hK K hb1
                  try simp only [List.getElem_toArray, List.getElem_cons_succ, List.getElem_cons_zero, Act.put, List.setIfInBounds_toArray, List.set_cons_zero, List.set_cons_succ]
                  refine wpAnyH_ready (rs := [8]) (by kernel_rfl) (by simp) ?_
                  refine AllReadyH.cons rfl (fun K hK => ?_) AllReadyH.nil
                  go_simp
                  refine (hpy.out _).mono ?_
                  rintro e w1 ⟨rfl, hb1⟩
                  go_wp2_with fail
                  refine hK.out _ _ ?_ (fun hHeld => ?_)
                  · exact keep3 (by assumption) hb1
                  clear hK K hb1
                  try simp only [List.getElem_toArray, List.getElem_cons_succ, List.getElem_cons_zero, Act.put, List.setIfInBounds_toArray, List.set_cons_zero, List.set_cons_succ]
                  refine wpAnyH_take (i := 9) (v := ?vtU4_9) rfl (by kernel_rfl) (by kernel_rfl) (by kernel_rfl) (fun _ _ _ h => h) (Or.inl ⟨rfl, ?ytU4_9⟩) (by assumption) ?_
                  case ytU4_9 => (intro w hSw; (try dsimp only at hSw); go_simp; first | done | with_reducible rfl)
                  simp only [List.getElem_toArray, List.getElem_cons_succ, List.getElem_cons_zero, Act.put, List.setIfInBounds_toArray, List.set_cons_zero, List.set_cons_succ]
                  refine wpAnyH_done (by kernel_rfl) ?_ _
                  have hbw3 := Lib.hid (hbw2.out.step hHeld.1)
                  go_wp2
                  go_roundw
                  case rel => exact ⟨k + 1, by omega, by go_num, hbw3.out⟩
                  case measure => simp [intOf]; omega
                · clear hM hsz
                  replace hI3 := Lib.hid (hI3.out.below hbw)
                  replace hI5 := Lib.hid (hI5.out.below hbw)
                  replace hI6 := Lib.hid (hI6.out.below hbw)
                  replace hI8 := Lib.hid (hI8.out.below hbw)
                  replace hI9 := Lib.hid (hI9.out.below hbw)
                  replace hI14 := Lib.hid (hI14.out.below hbw)
                  replace hB := Lib.hid (hB.out.step hbw)
                  clear hbw
                  by_cases hzb : tc = 0
                  · have zba : (tc == 0) = true := beq_iff_eq.2 hzb
                    have zbb : (tc != 0) = false := by simp [hzb]
                    replace hzb := Lib.hid hzb
                    obtain ⟨c1', c2', c3', c4', c5', c6', c7'⟩ := hL1.out tl (by rw [hzb.out])
                    have hcl : cl = widL (colsN R) R := (Prod.mk.inj c1').1
                    rw [← hcl] at c3' c4' c7'
                    have hl5 := hI5.out.1
                    rw [hl5] at c3' c7'
                    have hlen : n3 = n1 := by rw [← hI3.out.1, c2', hRl.out]
                    have hsm := Lib.hid (fun W (hW : Ints W A5 n5 cl) => f6sum_any A5 n5 c5 cl c3' c4' W hW rfl)
                    have hs0 := sumI_range cl c4'
                    rw [hl5] at hs0
                    have hq0 : 0 ≤ gp * ((n5 : Int) - 1) ∨ n5 = 0 := by
                      by_cases h5 : n5 = 0
                      · exact .inr h5
                      · exact .inl (Int.mul_nonneg (by omega) (by omega))
                    have hq1 : gp * ((n5 : Int) - 1) ≤ 20 * 12 := by
                      by_cases h5 : n5 = 0
                      · subst h5
                        omega
                      · exact Int.mul_le_mul (by omega) (by omega) (by omega) (by omega)
                    have hq2 : -20 ≤ gp * ((n5 : Int) - 1) := by
                      rcases hq0 with h | h
                      · omega
                      · subst h
                        omega
                    have hw1 : IntKind.i64.wrap ((n5 : Int) - 1) = (n5 : Int) - 1 := IntWalk.i64_in _ (by omega)
                    have hw2 : IntKind.i64.wrap (gp * ((n5 : Int) - 1)) = gp * ((n5 : Int) - 1) := IntWalk.i64_in _ (by omega)
                    have hw3 : IntKind.i64.wrap (sumI cl + gp * ((n5 : Int) - 1)) = sumI cl + gp * ((n5 : Int) - 1) := IntWalk.i64_in _ (by omega)
                    replace c7' := Lib.hid c7'
                    replace hlen := Lib.hid hlen
                    generalize hX : gp * ((n5 : Int) - 1) = X at *
                    generalize hY : sumI cl = Y at *
                    have hw2' : IntKind.i64.wrap (gp * ((n5 : Int) - 1)) = X := by rw [hX]; exact hw2
                    clear hw2
                    replace hX := Lib.hid hX
                    replace hY := Lib.hid hY
                    clear c1' c2' c3' c4' c5' c6' hcl hl5 hs0 hq0 hq1 hq2
                    go_wp2
                    go_loopw [42] (fun i wz9 => ∃ k : Nat, k ≤ n3 ∧ i = .int .i64 k ∧ Below wt.heap.size wt wz9) (fun i _ => n3 - (intOf i).toNat)
                    case atStart => exact ⟨0, by omega, rfl, Below.refl _ _⟩
                    case round =>
                      rename World => wv
                      obtain ⟨k, hk, rfl, hbw⟩ := hrel
                      by_cases hlt : k < n3
                      · obtain ⟨b, off, x, hA3, hbb, hx, d1⟩ := str_at (hI3.out.below hbw) hlt
                        subst hA3
                        have hI5v := Lib.hid (hI5.out.below hbw)
                        have hxs := c7'.out x (List.mem_of_getElem? hx.out)
                        have hw4 : IntKind.i64.wrap (Y + X) = (x.size : Int) := by rw [hw3, hxs]
                        clear hw3
                        have e5 : ((x.size : Int) != (x.size : Int)) = false := by simp
                        have k0 : (0 : Int) ≤ (k : Int) := Int.natCast_nonneg _
                        have k1 : (k : Int) < (n3 : Int) := by omega
                        have hbw2 := Lib.hid hbw
                        clear hx hxs
                        go_wp2_with fail
                        refine wp_region_held_drew (S := fun w' => Below wv.heap.size wv w' ∧ w'.cell? ⟨b, off + k, none⟩ = some (.string x)) (by kernel_rfl) ?_ (fun hHeld => ?_)
                        · exact ⟨(Below.refl _ _).drew, d1⟩
                        refine wpAnyH_take (i := 0) (v := ?vvU5_0) rfl (by kernel_rfl) (by kernel_rfl) (by kernel_rfl) (fun _ _ _ h => h) (Or.inl ⟨rfl, ?yvU5_0⟩) (by assumption) ?_
                        case yvU5_0 => (intro w hSw; (try dsimp only at hSw); go_simp; first | done | with_reducible rfl)
                        simp only [List.getElem_toArray, List.getElem_cons_succ, List.getElem_cons_zero, Act.put, List.setIfInBounds_toArray, List.set_cons_zero, List.set_cons_succ]
                        refine wpAnyH_take (i := 1) (v := ?vvU5_1) rfl (by kernel_rfl) (by kernel_rfl) (by kernel_rfl) (fun _ _ _ h => h) (Or.inl ⟨rfl, ?yvU5_1⟩) (by assumption) ?_
                        case yvU5_1 => (intro w hSw; (try dsimp only at hSw); go_simp; first | done | with_reducible rfl)
                        simp only [List.getElem_toArray, List.getElem_cons_succ, List.getElem_cons_zero, Act.put, List.setIfInBounds_toArray, List.set_cons_zero, List.set_cons_succ]
                        refine wpAnyH_take (i := 2) (v := ?vvU5_2) rfl (by kernel_rfl) (by kernel_rfl) (by kernel_rfl) (fun _ _ _ h => h) (Or.inl ⟨rfl, ?yvU5_2⟩) (by assumption) ?_
                        case yvU5_2 => (intro w hSw; (try dsimp only at hSw); go_simp; first | done | with_reducible rfl)
                        simp only [List.getElem_toArray, List.getElem_cons_succ, List.getElem_cons_zero, Act.put, List.setIfInBounds_toArray, List.set_cons_zero, List.set_cons_succ]
                        refine wpAnyH_take (i := 3) (v := ?vvU5_3) rfl (by kernel_rfl) (by kernel_rfl) (by kernel_rfl) (fun _ _ _ h => h) (Or.inl ⟨rfl, ?yvU5_3⟩) (by assumption) ?_
                        case yvU5_3 => (intro w hSw; (try dsimp only at hSw); go_simp; first | done | with_reducible rfl)
                        simp only [List.getElem_toArray, List.getElem_cons_succ, List.getElem_cons_zero, Act.put, List.setIfInBounds_toArray, List.set_cons_zero, List.set_cons_succ]
                        refine wpAnyH_take (i := 4) (v := ?vvU5_4) rfl (by kernel_rfl) (by kernel_rfl) (by kernel_rfl) (fun _ _ _ h => h) (Or.inl ⟨rfl, ?yvU5_4⟩) (by assumption) ?_
                        case yvU5_4 => (intro w hSw; (try dsimp only at hSw); go_simp; first | done | with_reducible rfl)
                        simp only [List.getElem_toArray, List.getElem_cons_succ, List.getElem_cons_zero, Act.put, List.setIfInBounds_toArray, List.set_cons_zero, List.set_cons_succ]
                        refine wpAnyH_take (i := 5) (v := ?vvU5_5) rfl (by kernel_rfl) (by kernel_rfl) (by kernel_rfl) (fun _ _ _ h => h) (Or.inl ⟨rfl, ?yvU5_5⟩) (by assumption) ?_
                        case yvU5_5 => (intro w hSw; (try dsimp only at hSw); go_simp; first | done | with_reducible rfl)
                        simp only [List.getElem_toArray, List.getElem_cons_succ, List.getElem_cons_zero, Act.put, List.setIfInBounds_toArray, List.set_cons_zero, List.set_cons_succ]
                        refine wpAnyH_take (i := 7) (v := ?vvU5_7) rfl (by kernel_rfl) (by kernel_rfl) (by kernel_rfl) (fun _ _ _ h => h) (Or.inl ⟨rfl, ?yvU5_7⟩) (by assumption) ?_
                        case yvU5_7 => (intro w hSw; (try dsimp only at hSw); go_simp; first | done | with_reducible rfl)
                        simp only [List.getElem_toArray, List.getElem_cons_succ, List.getElem_cons_zero, Act.put, List.setIfInBounds_toArray, List.set_cons_zero, List.set_cons_succ]
                        refine wpAnyH_take (i := 8) (v := ?vvU5_8) rfl (by kernel_rfl) (by kernel_rfl) (by kernel_rfl) (fun _ _ _ h => h) (Or.inl ⟨rfl, ?yvU5_8⟩) (by assumption) ?_
                        case yvU5_8 => (intro w hSw; (try dsimp only at hSw); go_simp; first | done | with_reducible rfl)
                        simp only [List.getElem_toArray, List.getElem_cons_succ, List.getElem_cons_zero, Act.put, List.setIfInBounds_toArray, List.set_cons_zero, List.set_cons_succ]
                        refine wpAnyH_take (i := 9) (v := ?vvU5_9) rfl (by kernel_rfl) (by kernel_rfl) (by kernel_rfl) (fun _ _ _ h => h) (Or.inl ⟨rfl, ?yvU5_9⟩) (by assumption) ?_
                        case yvU5_9 => (intro w hSw; (try dsimp only at hSw); go_simp; first | done | with_reducible rfl)
                        simp only [List.getElem_toArray, List.getElem_cons_succ, List.getElem_cons_zero, Act.put, List.setIfInBounds_toArray, List.set_cons_zero, List.set_cons_succ]
                        refine wpAnyH_take (i := 10) (v := ?vvU5_10) rfl (by kernel_rfl) (by kernel_rfl) (by kernel_rfl) (fun _ _ _ h => h) (Or.inl ⟨rfl, ?yvU5_10⟩) (by assumption) ?_
                        case yvU5_10 => (intro w hSw; (try dsimp only at hSw); go_simp; first | done | with_reducible rfl)
                        simp only [List.getElem_toArray, List.getElem_cons_succ, List.getElem_cons_zero, Act.put, List.setIfInBounds_toArray, List.set_cons_zero, List.set_cons_succ]
                        refine wpAnyH_take (i := 11) (v := ?vvU5_11) rfl (by kernel_rfl) (by kernel_rfl) (by kernel_rfl) (fun _ _ _ h => h) (Or.inl ⟨rfl, ?yvU5_11⟩) (by assumption) ?_
                        case yvU5_11 => (intro w hSw; (try dsimp only at hSw); go_simp; first | done | with_reducible rfl)
                        simp only [List.getElem_toArray, List.getElem_cons_succ, List.getElem_cons_zero, Act.put, List.setIfInBounds_toArray, List.set_cons_zero, List.set_cons_succ]
                        refine wpAnyH_ready (rs := [6]) (by kernel_rfl) (by simp) ?_
                        refine AllReadyH.cons rfl (fun K hK => ?_) AllReadyH.nil
                        go_simp
                        refine (hsm.out _ (hI5v.out.below hHeld.1)).mono ?_
                        rintro e w1 ⟨rfl, hb1⟩
                        go_wp2_with fail
                        refine hK.out _ _ ?_ (fun hHeld => ?_)
                        · exact keep2 (by assumption) hb1
                        clear hK K hb1
                        try simp only [List.getElem_toArray, List.getElem_cons_succ, List.getElem_cons_zero, Act.put, List.setIfInBounds_toArray, List.set_cons_zero, List.set_cons_succ]
                        refine wpAnyH_take (i := 12) (v := ?vvU5_12) rfl (by kernel_rfl) (by kernel_rfl) (by kernel_rfl) (fun _ _ _ h => h) (Or.inl ⟨rfl, ?yvU5_12⟩) (by assumption) ?_
                        case yvU5_12 => (intro w hSw; (try dsimp only at hSw); go_simp; first | done | with_reducible rfl)
                        simp only [List.getElem_toArray, List.getElem_cons_succ, List.getElem_cons_zero, Act.put, List.setIfInBounds_toArray, List.set_cons_zero, List.set_cons_succ]
                        refine wpAnyH_take (i := 13) (v := ?vvU5_13) rfl (by kernel_rfl) (by kernel_rfl) (by kernel_rfl) (fun _ _ _ h => h) (Or.inl ⟨rfl, ?yvU5_13⟩) (by assumption) ?_
                        case yvU5_13 => (intro w hSw; (try dsimp only at hSw); go_simp; first | done | with_reducible rfl)
                        simp only [List.getElem_toArray, List.getElem_cons_succ, List.getElem_cons_zero, Act.put, List.setIfInBounds_toArray, List.set_cons_zero, List.set_cons_succ]
                        refine wpAnyH_done (by kernel_rfl) ?_ _
                        have hbw3 := Lib.hid (hbw2.out.step hHeld.1)
                        go_wp2
                        go_roundw
                        case rel => exact ⟨k + 1, by omega, by go_num, hbw3.out⟩
                        case measure => simp [intOf]; omega
                      · have hbf := Lib.hid (hB.out.step hbw)
                        have e7 : ((n3 : Int) == (n1 : Int)) = true := beq_iff_eq.2 (by have := hlen.out; omega)
                        have e8 : (n3 == n1) = true := beq_iff_eq.2 hlen.out
                        go_wp2
                        go_ret
                        exact ⟨rfl, hbf.out⟩
                  · have zba : (tc == 0) = false := beq_eq_false_iff_ne.2 hzb
                    have zbb : (tc != 0) = true := by simp [hzb]
                    replace hzb := Lib.hid hzb
                    go_wp2
                    go_ret
                    exact ⟨rfl, hB.out⟩
            · have z7a : (ac == 0) = false := beq_eq_false_iff_ne.2 hz7
              have z7b : (ac != 0) = true := by simp [hz7]
              replace hz7 := Lib.hid hz7
              by_cases hzb : tc = 0
              · have zba : (tc == 0) = true := beq_iff_eq.2 hzb
                have zbb : (tc != 0) = false := by simp [hzb]
                replace hzb := Lib.hid hzb
                obtain ⟨c1', c2', c3', c4', c5', c6', c7'⟩ := hL1.out tl (by rw [hzb.out])
                have hcl : cl = widL (colsN R) R := (Prod.mk.inj c1').1
                rw [← hcl] at c3' c4' c7'
                have hl5 := hI5.out.1
                rw [hl5] at c3' c7'
                have hlen : n3 = n1 := by rw [← hI3.out.1, c2', hRl.out]
                have hsm := Lib.hid (fun W (hW : Ints W A5 n5 cl) => f6sum_any A5 n5 c5 cl c3' c4' W hW rfl)
                have hs0 := sumI_range cl c4'
                rw [hl5] at hs0
                have hq0 : 0 ≤ gp * ((n5 : Int) - 1) ∨ n5 = 0 := by
                  by_cases h5 : n5 = 0
                  · exact .inr h5
                  · exact .inl (Int.mul_nonneg (by omega) (by omega))
                have hq1 : gp * ((n5 : Int) - 1) ≤ 20 * 12 := by
                  by_cases h5 : n5 = 0
                  · subst h5
                    omega
                  · exact Int.mul_le_mul (by omega) (by omega) (by omega) (by omega)
                have hq2 : -20 ≤ gp * ((n5 : Int) - 1) := by
                  rcases hq0 with h | h
                  · omega
                  · subst h
                    omega
                have hw1 : IntKind.i64.wrap ((n5 : Int) - 1) = (n5 : Int) - 1 := IntWalk.i64_in _ (by omega)
                have hw2 : IntKind.i64.wrap (gp * ((n5 : Int) - 1)) = gp * ((n5 : Int) - 1) := IntWalk.i64_in _ (by omega)
                have hw3 : IntKind.i64.wrap (sumI cl + gp * ((n5 : Int) - 1)) = sumI cl + gp * ((n5 : Int) - 1) := IntWalk.i64_in _ (by omega)
                replace c7' := Lib.hid c7'
                replace hlen := Lib.hid hlen
                generalize hX : gp * ((n5 : Int) - 1) = X at *
                generalize hY : sumI cl = Y at *
                have hw2' : IntKind.i64.wrap (gp * ((n5 : Int) - 1)) = X := by rw [hX]; exact hw2
                clear hw2
                replace hX := Lib.hid hX
                replace hY := Lib.hid hY
                clear c1' c2' c3' c4' c5' c6' hcl hl5 hs0 hq0 hq1 hq2
                go_wp2
                go_loopw [42] (fun i wz9 => ∃ k : Nat, k ≤ n3 ∧ i = .int .i64 k ∧ Below wr.heap.size wr wz9) (fun i _ => n3 - (intOf i).toNat)
                case atStart => exact ⟨0, by omega, rfl, Below.refl _ _⟩
                case round =>
                  rename World => wv
                  obtain ⟨k, hk, rfl, hbw⟩ := hrel
                  by_cases hlt : k < n3
                  · obtain ⟨b, off, x, hA3, hbb, hx, d1⟩ := str_at (hI3.out.below hbw) hlt
                    subst hA3
                    have hI5v := Lib.hid (hI5.out.below hbw)
                    have hxs := c7'.out x (List.mem_of_getElem? hx.out)
                    have hw4 : IntKind.i64.wrap (Y + X) = (x.size : Int) := by rw [hw3, hxs]
                    clear hw3
                    have e5 : ((x.size : Int) != (x.size : Int)) = false := by simp
                    have k0 : (0 : Int) ≤ (k : Int) := Int.natCast_nonneg _
                    have k1 : (k : Int) < (n3 : Int) := by omega
                    have hbw2 := Lib.hid hbw
                    clear hx hxs
                    go_wp2_with fail
                    refine wp_region_held_drew (S := fun w' => Below wv.heap.size wv w' ∧ w'.cell? ⟨b, off + k, none⟩ = some (.string x)) (by kernel_rfl) ?_ (fun hHeld => ?_)
                    · exact ⟨(Below.refl _ _).drew, d1⟩
                    refine wpAnyH_take (i := 0) (v := ?vvU6_0) rfl (by kernel_rfl) (by kernel_rfl) (by kernel_rfl) (fun _ _ _ h => h) (Or.inl ⟨rfl, ?yvU6_0⟩) (by assumption) ?_
                    case yvU6_0 => (intro w hSw; (try dsimp only at hSw); go_simp; first | done | with_reducible rfl)
                    simp only [List.getElem_toArray, List.getElem_cons_succ, List.getElem_cons_zero, Act.put, List.setIfInBounds_toArray, List.set_cons_zero, List.set_cons_succ]
                    refine wpAnyH_take (i := 1) (v := ?vvU6_1) rfl (by kernel_rfl) (by kernel_rfl) (by kernel_rfl) (fun _ _ _ h => h) (Or.inl ⟨rfl, ?yvU6_1⟩) (by assumption) ?_
                    case yvU6_1 => (intro w hSw; (try dsimp only at hSw); go_simp; first | done | with_reducible rfl)
                    simp only [List.getElem_toArray, List.getElem_cons_succ, List.getElem_cons_zero, Act.put, List.setIfInBounds_toArray, List.set_cons_zero, List.set_cons_succ]
                    refine wpAnyH_take (i := 2) (v := ?vvU6_2) rfl (by kernel_rfl) (by kernel_rfl) (by kernel_rfl) (fun _ _ _ h => h) (Or.inl ⟨rfl, ?yvU6_2⟩) (by assumption) ?_
                    case yvU6_2 => (intro w hSw; (try dsimp only at hSw); go_simp; first | done | with_reducible rfl)
                    simp only [List.getElem_toArray, List.getElem_cons_succ, List.getElem_cons_zero, Act.put, List.setIfInBounds_toArray, List.set_cons_zero, List.set_cons_succ]
                    refine wpAnyH_take (i := 3) (v := ?vvU6_3) rfl (by kernel_rfl) (by kernel_rfl) (by kernel_rfl) (fun _ _ _ h => h) (Or.inl ⟨rfl, ?yvU6_3⟩) (by assumption) ?_
                    case yvU6_3 => (intro w hSw; (try dsimp only at hSw); go_simp; first | done | with_reducible rfl)
                    simp only [List.getElem_toArray, List.getElem_cons_succ, List.getElem_cons_zero, Act.put, List.setIfInBounds_toArray, List.set_cons_zero, List.set_cons_succ]
                    refine wpAnyH_take (i := 4) (v := ?vvU6_4) rfl (by kernel_rfl) (by kernel_rfl) (by kernel_rfl) (fun _ _ _ h => h) (Or.inl ⟨rfl, ?yvU6_4⟩) (by assumption) ?_
                    case yvU6_4 => (intro w hSw; (try dsimp only at hSw); go_simp; first | done | with_reducible rfl)
                    simp only [List.getElem_toArray, List.getElem_cons_succ, List.getElem_cons_zero, Act.put, List.setIfInBounds_toArray, List.set_cons_zero, List.set_cons_succ]
                    refine wpAnyH_take (i := 5) (v := ?vvU6_5) rfl (by kernel_rfl) (by kernel_rfl) (by kernel_rfl) (fun _ _ _ h => h) (Or.inl ⟨rfl, ?yvU6_5⟩) (by assumption) ?_
                    case yvU6_5 => (intro w hSw; (try dsimp only at hSw); go_simp; first | done | with_reducible rfl)
                    simp only [List.getElem_toArray, List.getElem_cons_succ, List.getElem_cons_zero, Act.put, List.setIfInBounds_toArray, List.set_cons_zero, List.set_cons_succ]
                    refine wpAnyH_take (i := 7) (v := ?vvU6_7) rfl (by kernel_rfl) (by kernel_rfl) (by kernel_rfl) (fun _ _ _ h => h) (Or.inl ⟨rfl, ?yvU6_7⟩) (by assumption) ?_
                    case yvU6_7 => (intro w hSw; (try dsimp only at hSw); go_simp; first | done | with_reducible rfl)
                    simp only [List.getElem_toArray, List.getElem_cons_succ, List.getElem_cons_zero, Act.put, List.setIfInBounds_toArray, List.set_cons_zero, List.set_cons_succ]
                    refine wpAnyH_take (i := 8) (v := ?vvU6_8) rfl (by kernel_rfl) (by kernel_rfl) (by kernel_rfl) (fun _ _ _ h => h) (Or.inl ⟨rfl, ?yvU6_8⟩) (by assumption) ?_
                    case yvU6_8 => (intro w hSw; (try dsimp only at hSw); go_simp; first | done | with_reducible rfl)
                    simp only [List.getElem_toArray, List.getElem_cons_succ, List.getElem_cons_zero, Act.put, List.setIfInBounds_toArray, List.set_cons_zero, List.set_cons_succ]
                    refine wpAnyH_take (i := 9) (v := ?vvU6_9) rfl (by kernel_rfl) (by kernel_rfl) (by kernel_rfl) (fun _ _ _ h => h) (Or.inl ⟨rfl, ?yvU6_9⟩) (by assumption) ?_
                    case yvU6_9 => (intro w hSw; (try dsimp only at hSw); go_simp; first | done | with_reducible rfl)
                    simp only [List.getElem_toArray, List.getElem_cons_succ, List.getElem_cons_zero, Act.put, List.setIfInBounds_toArray, List.set_cons_zero, List.set_cons_succ]
                    refine wpAnyH_take (i := 10) (v := ?vvU6_10) rfl (by kernel_rfl) (by kernel_rfl) (by kernel_rfl) (fun _ _ _ h => h) (Or.inl ⟨rfl, ?yvU6_10⟩) (by assumption) ?_
                    case yvU6_10 => (intro w hSw; (try dsimp only at hSw); go_simp; first | done | with_reducible rfl)
                    simp only [List.getElem_toArray, List.getElem_cons_succ, List.getElem_cons_zero, Act.put, List.setIfInBounds_toArray, List.set_cons_zero, List.set_cons_succ]
                    refine wpAnyH_take (i := 11) (v := ?vvU6_11) rfl (by kernel_rfl) (by kernel_rfl) (by kernel_rfl) (fun _ _ _ h => h) (Or.inl ⟨rfl, ?yvU6_11⟩) (by assumption) ?_
                    case yvU6_11 => (intro w hSw; (try dsimp only at hSw); go_simp; first | done | with_reducible rfl)
                    simp only [List.getElem_toArray, List.getElem_cons_succ, List.getElem_cons_zero, Act.put, List.setIfInBounds_toArray, List.set_cons_zero, List.set_cons_succ]
                    refine wpAnyH_ready (rs := [6]) (by kernel_rfl) (by simp) ?_
                    refine AllReadyH.cons rfl (fun K hK => ?_) AllReadyH.nil
                    go_simp
                    refine (hsm.out _ (hI5v.out.below hHeld.1)).mono ?_
                    rintro e w1 ⟨rfl, hb1⟩
                    go_wp2_with fail
                    refine hK.out _ _ ?_ (fun hHeld => ?_)
                    · exact keep2 (by assumption) hb1
                    clear hK K hb1
                    try simp only [List.getElem_toArray, List.getElem_cons_succ, List.getElem_cons_zero, Act.put, List.setIfInBounds_toArray, List.set_cons_zero, List.set_cons_succ]
                    refine wpAnyH_take (i := 12) (v := ?vvU6_12) rfl (by kernel_rfl) (by kernel_rfl) (by kernel_rfl) (fun _ _ _ h => h) (Or.inl ⟨rfl, ?yvU6_12⟩) (by assumption) ?_
                    case yvU6_12 => (intro w hSw; (try dsimp only at hSw); go_simp; first | done | with_reducible rfl)
                    simp only [List.getElem_toArray, List.getElem_cons_succ, List.getElem_cons_zero, Act.put, List.setIfInBounds_toArray, List.set_cons_zero, List.set_cons_succ]
                    refine wpAnyH_take (i := 13) (v := ?vvU6_13) rfl (by kernel_rfl) (by kernel_rfl) (by kernel_rfl) (fun _ _ _ h => h) (Or.inl ⟨rfl, ?yvU6_13⟩) (by assumption) ?_
                    case yvU6_13 => (intro w hSw; (try dsimp only at hSw); go_simp; first | done | with_reducible rfl)
                    simp only [List.getElem_toArray, List.getElem_cons_succ, List.getElem_cons_zero, Act.put, List.setIfInBounds_toArray, List.set_cons_zero, List.set_cons_succ]
                    refine wpAnyH_done (by kernel_rfl) ?_ _
                    have hbw3 := Lib.hid (hbw2.out.step hHeld.1)
                    go_wp2
                    go_roundw
                    case rel => exact ⟨k + 1, by omega, by go_num, hbw3.out⟩
                    case measure => simp [intOf]; omega
                  · have hbf := Lib.hid (hB.out.step hbw)
                    have e7 : ((n3 : Int) == (n1 : Int)) = true := beq_iff_eq.2 (by have := hlen.out; omega)
                    have e8 : (n3 == n1) = true := beq_iff_eq.2 hlen.out
                    go_wp2
                    go_ret
                    exact ⟨rfl, hbf.out⟩
              · have zba : (tc == 0) = false := beq_eq_false_iff_ne.2 hzb
                have zbb : (tc != 0) = true := by simp [hzb]
                replace hzb := Lib.hid hzb
                go_wp2
                go_ret
                exact ⟨rfl, hB.out⟩
    · have z3a : (sc == 0) = false := beq_eq_false_iff_ne.2 hz3
      have z3b : (sc != 0) = true := by simp [hz3]
      replace hz3 := Lib.hid hz3
      by_cases hz5 : gc = 0
      · have z5a : (gc == 0) = true := beq_iff_eq.2 hz5
        have z5b : (gc != 0) = false := by simp [hz5]
        replace hz5 := Lib.hid hz5
        have hlaw := hL3.out gv (by rw [hz5.out])
        obtain ⟨p1, p2, p3, p4, p5, p6, p7, p8, p9, p10⟩ := hlaw
        rw [hvl.out] at p1 p2 p9 p10
        have hs0 := sumI_range vs p3
        have hsm := fun W (hW : Ints W A9 n9 vs) => f6sum_any A9 n9 c9 vs p2 p3 W hW rfl
        replace p3 := Lib.hid p3
        obtain ⟨Q, hQ⟩ : ∃ Q, Q = ((n9 : Int) - 1) * gv := ⟨_, rfl⟩
        have hQ2 : ((n9 : Int) - 1) * (gv + 1) = Q + ((n9 : Int) - 1) := by rw [hQ, Int.mul_add, Int.mul_one]
        rw [← hQ] at p9
        rw [hQ2] at p10
        generalize hSM : sumI vs = SM at *
        have hQ0 : 0 ≤ Q := by rw [hQ]; exact Int.mul_nonneg (by omega) (by omega)
        have hw1 : IntKind.i64.wrap ((n9 : Int) - 1) = (n9 : Int) - 1 := IntWalk.i64_in _ (by omega)
        have hw2 : IntKind.i64.wrap (((n9 : Int) - 1) * gv) = Q := by rw [← hQ]; exact IntWalk.i64_in _ (by omega)
        have hw3 : IntKind.i64.wrap (SM + Q) = SM + Q := IntWalk.i64_in _ (by omega)
        have hw4 : IntKind.i64.wrap (tv - fr) = tv - fr := IntWalk.i64_in _ (by omega)
        have hw5 : IntKind.i64.wrap (gv + 1) = gv + 1 := IntWalk.i64_in _ (by omega)
        have hw6 : IntKind.i64.wrap (((n9 : Int) - 1) * (gv + 1)) = Q + ((n9 : Int) - 1) := by rw [hQ2]; exact IntWalk.i64_in _ (by omega)
        have hw7 : IntKind.i64.wrap (SM + (Q + ((n9 : Int) - 1))) = SM + (Q + ((n9 : Int) - 1)) := IntWalk.i64_in _ (by omega)
        have hg1 : decide (tv - fr < SM + Q) = false := decide_eq_false (by omega)
        have hg2 : decide (SM + (Q + ((n9 : Int) - 1)) ≤ tv - fr) = false := decide_eq_false (by omega)
        have hg3 : decide (gv < 1) = false := decide_eq_false (by omega)
        have hsm' := Lib.hid hsm
        clear hsm p1 p2 p3 p4 p5 p6 p7 p8 p9 p10 hQ hQ2 hSM hs0 hQ0
        have hcc := Lib.hid (hsm'.out _ hI9.out)
        go_wp2_with fail
        refine hcc.out.mono ?_
        rintro e ws3 ⟨rfl, hbs1⟩
        clear hcc
        replace hI3 := Lib.hid (hI3.out.below hbs1)
        replace hI5 := Lib.hid (hI5.out.below hbs1)
        replace hI6 := Lib.hid (hI6.out.below hbs1)
        replace hI8 := Lib.hid (hI8.out.below hbs1)
        replace hI9 := Lib.hid (hI9.out.below hbs1)
        replace hI14 := Lib.hid (hI14.out.below hbs1)
        replace hB := Lib.hid (hB.out.step hbs1)
        clear hbs1
        have hcc := Lib.hid (hsm'.out _ hI9.out)
        go_wp2_with fail
        refine hcc.out.mono ?_
        rintro e ws4 ⟨rfl, hbs2⟩
        clear hcc
        replace hI3 := Lib.hid (hI3.out.below hbs2)
        replace hI5 := Lib.hid (hI5.out.below hbs2)
        replace hI6 := Lib.hid (hI6.out.below hbs2)
        replace hI8 := Lib.hid (hI8.out.below hbs2)
        replace hI9 := Lib.hid (hI9.out.below hbs2)
        replace hI14 := Lib.hid (hI14.out.below hbs2)
        replace hB := Lib.hid (hB.out.step hbs2)
        clear hbs2
        clear hsm'
        by_cases hz7 : ac = 0
        · have z7a : (ac == 0) = true := beq_iff_eq.2 hz7
          have z7b : (ac != 0) = false := by simp [hz7]
          replace hz7 := Lib.hid hz7
          obtain ⟨⟨M, hM⟩, hsz⟩ := hL4.out al (by rw [hz7.out])
          replace hM := Lib.hid hM
          replace hsz := Lib.hid hsz
          go_wp2
          go_loopw [41] (fun i wz9 => ∃ k : Nat, k ≤ n14 ∧ i = .int .i64 k ∧ Below ws4.heap.size ws4 wz9) (fun i _ => n14 - (intOf i).toNat)
          case atStart => exact ⟨0, by omega, rfl, Below.refl _ _⟩
          case round =>
            rename World => wt
            obtain ⟨k, hk, rfl, hbw⟩ := hrel
            by_cases hlt : k < n14
            · obtain ⟨b, off, x, hA14, hbb, hx, d1⟩ := str_at (hI14.out.below hbw) hlt
              obtain ⟨b', off', y, hA14', hbb', hy, d0⟩ := str_at (hI14.out.below hbw) (k := 0) (by omega)
              rw [hA14] at hA14'
              injection hA14' with hA14'
              injection hA14' with e1 e2
              subst e1 e2
              rw [Nat.add_zero] at d0
              subst hA14
              have hpx := Lib.hid (fun W => f6point_any x (hsz.out x (List.mem_of_getElem? hx.out)) (hM.out x (List.mem_of_getElem? hx.out)) W)
              have hpy := Lib.hid (fun W => f6point_any y (hsz.out y (List.mem_of_getElem? hy.out)) (hM.out y (List.mem_of_getElem? hy.out)) W)
              have k0 : (0 : Int) ≤ (k : Int) := Int.natCast_nonneg _
              have k1 : (k : Int) < (n14 : Int) := by omega
              have k2 : (0 : Int) < (n14 : Int) := by omega
              have k3 : 0 < n14 := by omega
              have e5 : (M != M) = false := by simp
              have hbw2 := Lib.hid hbw
              clear hx hy
              go_wp2_with fail
              refine wp_region_held_drew (S := fun w' => Below wt.heap.size wt w' ∧ w'.cell? ⟨b, off + k, none⟩ = some (.string x) ∧ w'.cell? ⟨b, off, none⟩ = some (.string y)) (by kernel_rfl) ?_ (fun hHeld => ?_)
              · exact ⟨(Below.refl _ _).drew, d1, d0⟩
              refine wpAnyH_take (i := 0) (v := ?vtU7_0) rfl (by kernel_rfl) (by kernel_rfl) (by kernel_rfl) (fun _ _ _ h => h) (Or.inl ⟨rfl, ?ytU7_0⟩) (by assumption) ?_
              case ytU7_0 => (intro w hSw; (try dsimp only at hSw); go_simp; first | done | with_reducible rfl)
              simp only [List.getElem_toArray, List.getElem_cons_succ, List.getElem_cons_zero, Act.put, List.setIfInBounds_toArray, List.set_cons_zero, List.set_cons_succ]
              refine wpAnyH_take (i := 1) (v := ?vtU7_1) rfl (by kernel_rfl) (by kernel_rfl) (by kernel_rfl) (fun _ _ _ h => h) (Or.inl ⟨rfl, ?ytU7_1⟩) (by assumption) ?_
              case ytU7_1 => (intro w hSw; (try dsimp only at hSw); go_simp; first | done | with_reducible rfl)
              simp only [List.getElem_toArray, List.getElem_cons_succ, List.getElem_cons_zero, Act.put, List.setIfInBounds_toArray, List.set_cons_zero, List.set_cons_succ]
              refine wpAnyH_take (i := 2) (v := ?vtU7_2) rfl (by kernel_rfl) (by kernel_rfl) (by kernel_rfl) (fun _ _ _ h => h) (Or.inl ⟨rfl, ?ytU7_2⟩) (by assumption) ?_
              case ytU7_2 => (intro w hSw; (try dsimp only at hSw); go_simp; first | done | with_reducible rfl)
              simp only [List.getElem_toArray, List.getElem_cons_succ, List.getElem_cons_zero, Act.put, List.setIfInBounds_toArray, List.set_cons_zero, List.set_cons_succ]
              refine wpAnyH_take (i := 3) (v := ?vtU7_3) rfl (by kernel_rfl) (by kernel_rfl) (by kernel_rfl) (fun _ _ _ h => h) (Or.inl ⟨rfl, ?ytU7_3⟩) (by assumption) ?_
              case ytU7_3 => (intro w hSw; (try dsimp only at hSw); go_simp; first | done | with_reducible rfl)
              simp only [List.getElem_toArray, List.getElem_cons_succ, List.getElem_cons_zero, Act.put, List.setIfInBounds_toArray, List.set_cons_zero, List.set_cons_succ]
              refine wpAnyH_take (i := 5) (v := ?vtU7_5) rfl (by kernel_rfl) (by kernel_rfl) (by kernel_rfl) (fun _ _ _ h => h) (Or.inl ⟨rfl, ?ytU7_5⟩) (by assumption) ?_
              case ytU7_5 => (intro w hSw; (try dsimp only at hSw); go_simp; first | done | with_reducible rfl)
              simp only [List.getElem_toArray, List.getElem_cons_succ, List.getElem_cons_zero, Act.put, List.setIfInBounds_toArray, List.set_cons_zero, List.set_cons_succ]
              refine wpAnyH_take (i := 6) (v := ?vtU7_6) rfl (by kernel_rfl) (by kernel_rfl) (by kernel_rfl) (fun _ _ _ h => h) (Or.inl ⟨rfl, ?ytU7_6⟩) (by assumption) ?_
              case ytU7_6 => (intro w hSw; (try dsimp only at hSw); go_simp; first | done | with_reducible rfl)
              simp only [List.getElem_toArray, List.getElem_cons_succ, List.getElem_cons_zero, Act.put, List.setIfInBounds_toArray, List.set_cons_zero, List.set_cons_succ]
              refine wpAnyH_take (i := 7) (v := ?vtU7_7) rfl (by kernel_rfl) (by kernel_rfl) (by kernel_rfl) (fun _ _ _ h => h) (Or.inl ⟨rfl, ?ytU7_7⟩) (by assumption) ?_
              case ytU7_7 => (intro w hSw; (try dsimp only at hSw); go_simp; first | done | with_reducible rfl)
              simp only [List.getElem_toArray, List.getElem_cons_succ, List.getElem_cons_zero, Act.put, List.setIfInBounds_toArray, List.set_cons_zero, List.set_cons_succ]
              refine wpAnyH_ready (rs := [4]) (by kernel_rfl) (by simp) ?_
              refine AllReadyH.cons rfl (fun K hK => ?_) AllReadyH.nil
              go_simp
              refine (hpx.out _).mono ?_
              rintro e w1 ⟨rfl, hb1⟩
              go_wp2_with fail
              refine hK.out _ _ ?_ (fun hHeld => ?_)
              · exact keep3 (by assumption) hb1
              clear hK K hb1
              try simp only [List.getElem_toArray, List.getElem_cons_succ, List.getElem_cons_zero, Act.put, List.setIfInBounds_toArray, List.set_cons_zero, List.set_cons_succ]
              refine wpAnyH_ready (rs := [8]) (by kernel_rfl) (by simp) ?_
              refine AllReadyH.cons rfl (fun K hK => ?_) AllReadyH.nil
              go_simp
              refine (hpy.out _).mono ?_
              rintro e w1 ⟨rfl, hb1⟩
              go_wp2_with fail
              refine hK.out _ _ ?_ (fun hHeld => ?_)
              · exact keep3 (by assumption) hb1
              clear hK K hb1
              try simp only [List.getElem_toArray, List.getElem_cons_succ, List.getElem_cons_zero, Act.put, List.setIfInBounds_toArray, List.set_cons_zero, List.set_cons_succ]
              refine wpAnyH_take (i := 9) (v := ?vtU7_9) rfl (by kernel_rfl) (by kernel_rfl) (by kernel_rfl) (fun _ _ _ h => h) (Or.inl ⟨rfl, ?ytU7_9⟩) (by assumption) ?_
              case ytU7_9 => (intro w hSw; (try dsimp only at hSw); go_simp; first | done | with_reducible rfl)
              simp only [List.getElem_toArray, List.getElem_cons_succ, List.getElem_cons_zero, Act.put, List.setIfInBounds_toArray, List.set_cons_zero, List.set_cons_succ]
              refine wpAnyH_done (by kernel_rfl) ?_ _
              have hbw3 := Lib.hid (hbw2.out.step hHeld.1)
              go_wp2
              go_roundw
              case rel => exact ⟨k + 1, by omega, by go_num, hbw3.out⟩
              case measure => simp [intOf]; omega
            · clear hM hsz
              replace hI3 := Lib.hid (hI3.out.below hbw)
              replace hI5 := Lib.hid (hI5.out.below hbw)
              replace hI6 := Lib.hid (hI6.out.below hbw)
              replace hI8 := Lib.hid (hI8.out.below hbw)
              replace hI9 := Lib.hid (hI9.out.below hbw)
              replace hI14 := Lib.hid (hI14.out.below hbw)
              replace hB := Lib.hid (hB.out.step hbw)
              clear hbw
              by_cases hzb : tc = 0
              · have zba : (tc == 0) = true := beq_iff_eq.2 hzb
                have zbb : (tc != 0) = false := by simp [hzb]
                replace hzb := Lib.hid hzb
                obtain ⟨c1', c2', c3', c4', c5', c6', c7'⟩ := hL1.out tl (by rw [hzb.out])
                have hcl : cl = widL (colsN R) R := (Prod.mk.inj c1').1
                rw [← hcl] at c3' c4' c7'
                have hl5 := hI5.out.1
                rw [hl5] at c3' c7'
                have hlen : n3 = n1 := by rw [← hI3.out.1, c2', hRl.out]
                have hsm := Lib.hid (fun W (hW : Ints W A5 n5 cl) => f6sum_any A5 n5 c5 cl c3' c4' W hW rfl)
                have hs0 := sumI_range cl c4'
                rw [hl5] at hs0
                have hq0 : 0 ≤ gp * ((n5 : Int) - 1) ∨ n5 = 0 := by
                  by_cases h5 : n5 = 0
                  · exact .inr h5
                  · exact .inl (Int.mul_nonneg (by omega) (by omega))
                have hq1 : gp * ((n5 : Int) - 1) ≤ 20 * 12 := by
                  by_cases h5 : n5 = 0
                  · subst h5
                    omega
                  · exact Int.mul_le_mul (by omega) (by omega) (by omega) (by omega)
                have hq2 : -20 ≤ gp * ((n5 : Int) - 1) := by
                  rcases hq0 with h | h
                  · omega
                  · subst h
                    omega
                have hw1 : IntKind.i64.wrap ((n5 : Int) - 1) = (n5 : Int) - 1 := IntWalk.i64_in _ (by omega)
                have hw2 : IntKind.i64.wrap (gp * ((n5 : Int) - 1)) = gp * ((n5 : Int) - 1) := IntWalk.i64_in _ (by omega)
                have hw3 : IntKind.i64.wrap (sumI cl + gp * ((n5 : Int) - 1)) = sumI cl + gp * ((n5 : Int) - 1) := IntWalk.i64_in _ (by omega)
                replace c7' := Lib.hid c7'
                replace hlen := Lib.hid hlen
                generalize hX : gp * ((n5 : Int) - 1) = X at *
                generalize hY : sumI cl = Y at *
                have hw2' : IntKind.i64.wrap (gp * ((n5 : Int) - 1)) = X := by rw [hX]; exact hw2
                clear hw2
                replace hX := Lib.hid hX
                replace hY := Lib.hid hY
                clear c1' c2' c3' c4' c5' c6' hcl hl5 hs0 hq0 hq1 hq2
                go_wp2
                go_loopw [42] (fun i wz9 => ∃ k : Nat, k ≤ n3 ∧ i = .int .i64 k ∧ Below wt.heap.size wt wz9) (fun i _ => n3 - (intOf i).toNat)
                case atStart => exact ⟨0, by omega, rfl, Below.refl _ _⟩
                case round =>
                  rename World => wv
                  obtain ⟨k, hk, rfl, hbw⟩ := hrel
                  by_cases hlt : k < n3
                  · obtain ⟨b, off, x, hA3, hbb, hx, d1⟩ := str_at (hI3.out.below hbw) hlt
                    subst hA3
                    have hI5v := Lib.hid (hI5.out.below hbw)
                    have hxs := c7'.out x (List.mem_of_getElem? hx.out)
                    have hw4 : IntKind.i64.wrap (Y + X) = (x.size : Int) := by rw [hw3, hxs]
                    clear hw3
                    have e5 : ((x.size : Int) != (x.size : Int)) = false := by simp
                    have k0 : (0 : Int) ≤ (k : Int) := Int.natCast_nonneg _
                    have k1 : (k : Int) < (n3 : Int) := by omega
                    have hbw2 := Lib.hid hbw
                    clear hx hxs
                    go_wp2_with fail
                    refine wp_region_held_drew (S := fun w' => Below wv.heap.size wv w' ∧ w'.cell? ⟨b, off + k, none⟩ = some (.string x)) (by kernel_rfl) ?_ (fun hHeld => ?_)
                    · exact ⟨(Below.refl _ _).drew, d1⟩
                    refine wpAnyH_take (i := 0) (v := ?vvU8_0) rfl (by kernel_rfl) (by kernel_rfl) (by kernel_rfl) (fun _ _ _ h => h) (Or.inl ⟨rfl, ?yvU8_0⟩) (by assumption) ?_
                    case yvU8_0 => (intro w hSw; (try dsimp only at hSw); go_simp; first | done | with_reducible rfl)
                    simp only [List.getElem_toArray, List.getElem_cons_succ, List.getElem_cons_zero, Act.put, List.setIfInBounds_toArray, List.set_cons_zero, List.set_cons_succ]
                    refine wpAnyH_take (i := 1) (v := ?vvU8_1) rfl (by kernel_rfl) (by kernel_rfl) (by kernel_rfl) (fun _ _ _ h => h) (Or.inl ⟨rfl, ?yvU8_1⟩) (by assumption) ?_
                    case yvU8_1 => (intro w hSw; (try dsimp only at hSw); go_simp; first | done | with_reducible rfl)
                    simp only [List.getElem_toArray, List.getElem_cons_succ, List.getElem_cons_zero, Act.put, List.setIfInBounds_toArray, List.set_cons_zero, List.set_cons_succ]
                    refine wpAnyH_take (i := 2) (v := ?vvU8_2) rfl (by kernel_rfl) (by kernel_rfl) (by kernel_rfl) (fun _ _ _ h => h) (Or.inl ⟨rfl, ?yvU8_2⟩) (by assumption) ?_
                    case yvU8_2 => (intro w hSw; (try dsimp only at hSw); go_simp; first | done | with_reducible rfl)
                    simp only [List.getElem_toArray, List.getElem_cons_succ, List.getElem_cons_zero, Act.put, List.setIfInBounds_toArray, List.set_cons_zero, List.set_cons_succ]
                    refine wpAnyH_take (i := 3) (v := ?vvU8_3) rfl (by kernel_rfl) (by kernel_rfl) (by kernel_rfl) (fun _ _ _ h => h) (Or.inl ⟨rfl, ?yvU8_3⟩) (by assumption) ?_
                    case yvU8_3 => (intro w hSw; (try dsimp only at hSw); go_simp; first | done | with_reducible rfl)
                    simp only [List.getElem_toArray, List.getElem_cons_succ, List.getElem_cons_zero, Act.put, List.setIfInBounds_toArray, List.set_cons_zero, List.set_cons_succ]
                    refine wpAnyH_take (i := 4) (v := ?vvU8_4) rfl (by kernel_rfl) (by kernel_rfl) (by kernel_rfl) (fun _ _ _ h => h) (Or.inl ⟨rfl, ?yvU8_4⟩) (by assumption) ?_
                    case yvU8_4 => (intro w hSw; (try dsimp only at hSw); go_simp; first | done | with_reducible rfl)
                    simp only [List.getElem_toArray, List.getElem_cons_succ, List.getElem_cons_zero, Act.put, List.setIfInBounds_toArray, List.set_cons_zero, List.set_cons_succ]
                    refine wpAnyH_take (i := 5) (v := ?vvU8_5) rfl (by kernel_rfl) (by kernel_rfl) (by kernel_rfl) (fun _ _ _ h => h) (Or.inl ⟨rfl, ?yvU8_5⟩) (by assumption) ?_
                    case yvU8_5 => (intro w hSw; (try dsimp only at hSw); go_simp; first | done | with_reducible rfl)
                    simp only [List.getElem_toArray, List.getElem_cons_succ, List.getElem_cons_zero, Act.put, List.setIfInBounds_toArray, List.set_cons_zero, List.set_cons_succ]
                    refine wpAnyH_take (i := 7) (v := ?vvU8_7) rfl (by kernel_rfl) (by kernel_rfl) (by kernel_rfl) (fun _ _ _ h => h) (Or.inl ⟨rfl, ?yvU8_7⟩) (by assumption) ?_
                    case yvU8_7 => (intro w hSw; (try dsimp only at hSw); go_simp; first | done | with_reducible rfl)
                    simp only [List.getElem_toArray, List.getElem_cons_succ, List.getElem_cons_zero, Act.put, List.setIfInBounds_toArray, List.set_cons_zero, List.set_cons_succ]
                    refine wpAnyH_take (i := 8) (v := ?vvU8_8) rfl (by kernel_rfl) (by kernel_rfl) (by kernel_rfl) (fun _ _ _ h => h) (Or.inl ⟨rfl, ?yvU8_8⟩) (by assumption) ?_
                    case yvU8_8 => (intro w hSw; (try dsimp only at hSw); go_simp; first | done | with_reducible rfl)
                    simp only [List.getElem_toArray, List.getElem_cons_succ, List.getElem_cons_zero, Act.put, List.setIfInBounds_toArray, List.set_cons_zero, List.set_cons_succ]
                    refine wpAnyH_take (i := 9) (v := ?vvU8_9) rfl (by kernel_rfl) (by kernel_rfl) (by kernel_rfl) (fun _ _ _ h => h) (Or.inl ⟨rfl, ?yvU8_9⟩) (by assumption) ?_
                    case yvU8_9 => (intro w hSw; (try dsimp only at hSw); go_simp; first | done | with_reducible rfl)
                    simp only [List.getElem_toArray, List.getElem_cons_succ, List.getElem_cons_zero, Act.put, List.setIfInBounds_toArray, List.set_cons_zero, List.set_cons_succ]
                    refine wpAnyH_take (i := 10) (v := ?vvU8_10) rfl (by kernel_rfl) (by kernel_rfl) (by kernel_rfl) (fun _ _ _ h => h) (Or.inl ⟨rfl, ?yvU8_10⟩) (by assumption) ?_
                    case yvU8_10 => (intro w hSw; (try dsimp only at hSw); go_simp; first | done | with_reducible rfl)
                    simp only [List.getElem_toArray, List.getElem_cons_succ, List.getElem_cons_zero, Act.put, List.setIfInBounds_toArray, List.set_cons_zero, List.set_cons_succ]
                    refine wpAnyH_take (i := 11) (v := ?vvU8_11) rfl (by kernel_rfl) (by kernel_rfl) (by kernel_rfl) (fun _ _ _ h => h) (Or.inl ⟨rfl, ?yvU8_11⟩) (by assumption) ?_
                    case yvU8_11 => (intro w hSw; (try dsimp only at hSw); go_simp; first | done | with_reducible rfl)
                    simp only [List.getElem_toArray, List.getElem_cons_succ, List.getElem_cons_zero, Act.put, List.setIfInBounds_toArray, List.set_cons_zero, List.set_cons_succ]
                    refine wpAnyH_ready (rs := [6]) (by kernel_rfl) (by simp) ?_
                    refine AllReadyH.cons rfl (fun K hK => ?_) AllReadyH.nil
                    go_simp
                    refine (hsm.out _ (hI5v.out.below hHeld.1)).mono ?_
                    rintro e w1 ⟨rfl, hb1⟩
                    go_wp2_with fail
                    refine hK.out _ _ ?_ (fun hHeld => ?_)
                    · exact keep2 (by assumption) hb1
                    clear hK K hb1
                    try simp only [List.getElem_toArray, List.getElem_cons_succ, List.getElem_cons_zero, Act.put, List.setIfInBounds_toArray, List.set_cons_zero, List.set_cons_succ]
                    refine wpAnyH_take (i := 12) (v := ?vvU8_12) rfl (by kernel_rfl) (by kernel_rfl) (by kernel_rfl) (fun _ _ _ h => h) (Or.inl ⟨rfl, ?yvU8_12⟩) (by assumption) ?_
                    case yvU8_12 => (intro w hSw; (try dsimp only at hSw); go_simp; first | done | with_reducible rfl)
                    simp only [List.getElem_toArray, List.getElem_cons_succ, List.getElem_cons_zero, Act.put, List.setIfInBounds_toArray, List.set_cons_zero, List.set_cons_succ]
                    refine wpAnyH_take (i := 13) (v := ?vvU8_13) rfl (by kernel_rfl) (by kernel_rfl) (by kernel_rfl) (fun _ _ _ h => h) (Or.inl ⟨rfl, ?yvU8_13⟩) (by assumption) ?_
                    case yvU8_13 => (intro w hSw; (try dsimp only at hSw); go_simp; first | done | with_reducible rfl)
                    simp only [List.getElem_toArray, List.getElem_cons_succ, List.getElem_cons_zero, Act.put, List.setIfInBounds_toArray, List.set_cons_zero, List.set_cons_succ]
                    refine wpAnyH_done (by kernel_rfl) ?_ _
                    have hbw3 := Lib.hid (hbw2.out.step hHeld.1)
                    go_wp2
                    go_roundw
                    case rel => exact ⟨k + 1, by omega, by go_num, hbw3.out⟩
                    case measure => simp [intOf]; omega
                  · have hbf := Lib.hid (hB.out.step hbw)
                    have e7 : ((n3 : Int) == (n1 : Int)) = true := beq_iff_eq.2 (by have := hlen.out; omega)
                    have e8 : (n3 == n1) = true := beq_iff_eq.2 hlen.out
                    go_wp2
                    go_ret
                    exact ⟨rfl, hbf.out⟩
              · have zba : (tc == 0) = false := beq_eq_false_iff_ne.2 hzb
                have zbb : (tc != 0) = true := by simp [hzb]
                replace hzb := Lib.hid hzb
                go_wp2
                go_ret
                exact ⟨rfl, hB.out⟩
        · have z7a : (ac == 0) = false := beq_eq_false_iff_ne.2 hz7
          have z7b : (ac != 0) = true := by simp [hz7]
          replace hz7 := Lib.hid hz7
          by_cases hzb : tc = 0
          · have zba : (tc == 0) = true := beq_iff_eq.2 hzb
            have zbb : (tc != 0) = false := by simp [hzb]
            replace hzb := Lib.hid hzb
            obtain ⟨c1', c2', c3', c4', c5', c6', c7'⟩ := hL1.out tl (by rw [hzb.out])
            have hcl : cl = widL (colsN R) R := (Prod.mk.inj c1').1
            rw [← hcl] at c3' c4' c7'
            have hl5 := hI5.out.1
            rw [hl5] at c3' c7'
            have hlen : n3 = n1 := by rw [← hI3.out.1, c2', hRl.out]
            have hsm := Lib.hid (fun W (hW : Ints W A5 n5 cl) => f6sum_any A5 n5 c5 cl c3' c4' W hW rfl)
            have hs0 := sumI_range cl c4'
            rw [hl5] at hs0
            have hq0 : 0 ≤ gp * ((n5 : Int) - 1) ∨ n5 = 0 := by
              by_cases h5 : n5 = 0
              · exact .inr h5
              · exact .inl (Int.mul_nonneg (by omega) (by omega))
            have hq1 : gp * ((n5 : Int) - 1) ≤ 20 * 12 := by
              by_cases h5 : n5 = 0
              · subst h5
                omega
              · exact Int.mul_le_mul (by omega) (by omega) (by omega) (by omega)
            have hq2 : -20 ≤ gp * ((n5 : Int) - 1) := by
              rcases hq0 with h | h
              · omega
              · subst h
                omega
            have hw1 : IntKind.i64.wrap ((n5 : Int) - 1) = (n5 : Int) - 1 := IntWalk.i64_in _ (by omega)
            have hw2 : IntKind.i64.wrap (gp * ((n5 : Int) - 1)) = gp * ((n5 : Int) - 1) := IntWalk.i64_in _ (by omega)
            have hw3 : IntKind.i64.wrap (sumI cl + gp * ((n5 : Int) - 1)) = sumI cl + gp * ((n5 : Int) - 1) := IntWalk.i64_in _ (by omega)
            replace c7' := Lib.hid c7'
            replace hlen := Lib.hid hlen
            generalize hX : gp * ((n5 : Int) - 1) = X at *
            generalize hY : sumI cl = Y at *
            have hw2' : IntKind.i64.wrap (gp * ((n5 : Int) - 1)) = X := by rw [hX]; exact hw2
            clear hw2
            replace hX := Lib.hid hX
            replace hY := Lib.hid hY
            clear c1' c2' c3' c4' c5' c6' hcl hl5 hs0 hq0 hq1 hq2
            go_wp2
            go_loopw [42] (fun i wz9 => ∃ k : Nat, k ≤ n3 ∧ i = .int .i64 k ∧ Below ws4.heap.size ws4 wz9) (fun i _ => n3 - (intOf i).toNat)
            case atStart => exact ⟨0, by omega, rfl, Below.refl _ _⟩
            case round =>
              rename World => wv
              obtain ⟨k, hk, rfl, hbw⟩ := hrel
              by_cases hlt : k < n3
              · obtain ⟨b, off, x, hA3, hbb, hx, d1⟩ := str_at (hI3.out.below hbw) hlt
                subst hA3
                have hI5v := Lib.hid (hI5.out.below hbw)
                have hxs := c7'.out x (List.mem_of_getElem? hx.out)
                have hw4 : IntKind.i64.wrap (Y + X) = (x.size : Int) := by rw [hw3, hxs]
                clear hw3
                have e5 : ((x.size : Int) != (x.size : Int)) = false := by simp
                have k0 : (0 : Int) ≤ (k : Int) := Int.natCast_nonneg _
                have k1 : (k : Int) < (n3 : Int) := by omega
                have hbw2 := Lib.hid hbw
                clear hx hxs
                go_wp2_with fail
                refine wp_region_held_drew (S := fun w' => Below wv.heap.size wv w' ∧ w'.cell? ⟨b, off + k, none⟩ = some (.string x)) (by kernel_rfl) ?_ (fun hHeld => ?_)
                · exact ⟨(Below.refl _ _).drew, d1⟩
                refine wpAnyH_take (i := 0) (v := ?vvU9_0) rfl (by kernel_rfl) (by kernel_rfl) (by kernel_rfl) (fun _ _ _ h => h) (Or.inl ⟨rfl, ?yvU9_0⟩) (by assumption) ?_
                case yvU9_0 => (intro w hSw; (try dsimp only at hSw); go_simp; first | done | with_reducible rfl)
                simp only [List.getElem_toArray, List.getElem_cons_succ, List.getElem_cons_zero, Act.put, List.setIfInBounds_toArray, List.set_cons_zero, List.set_cons_succ]
                refine wpAnyH_take (i := 1) (v := ?vvU9_1) rfl (by kernel_rfl) (by kernel_rfl) (by kernel_rfl) (fun _ _ _ h => h) (Or.inl ⟨rfl, ?yvU9_1⟩) (by assumption) ?_
                case yvU9_1 => (intro w hSw; (try dsimp only at hSw); go_simp; first | done | with_reducible rfl)
                simp only [List.getElem_toArray, List.getElem_cons_succ, List.getElem_cons_zero, Act.put, List.setIfInBounds_toArray, List.set_cons_zero, List.set_cons_succ]
                refine wpAnyH_take (i := 2) (v := ?vvU9_2) rfl (by kernel_rfl) (by kernel_rfl) (by kernel_rfl) (fun _ _ _ h => h) (Or.inl ⟨rfl, ?yvU9_2⟩) (by assumption) ?_
                case yvU9_2 => (intro w hSw; (try dsimp only at hSw); go_simp; first | done | with_reducible rfl)
                simp only [List.getElem_toArray, List.getElem_cons_succ, List.getElem_cons_zero, Act.put, List.setIfInBounds_toArray, List.set_cons_zero, List.set_cons_succ]
                refine wpAnyH_take (i := 3) (v := ?vvU9_3) rfl (by kernel_rfl) (by kernel_rfl) (by kernel_rfl) (fun _ _ _ h => h) (Or.inl ⟨rfl, ?yvU9_3⟩) (by assumption) ?_
                case yvU9_3 => (intro w hSw; (try dsimp only at hSw); go_simp; first | done | with_reducible rfl)
                simp only [List.getElem_toArray, List.getElem_cons_succ, List.getElem_cons_zero, Act.put, List.setIfInBounds_toArray, List.set_cons_zero, List.set_cons_succ]
                refine wpAnyH_take (i := 4) (v := ?vvU9_4) rfl (by kernel_rfl) (by kernel_rfl) (by kernel_rfl) (fun _ _ _ h => h) (Or.inl ⟨rfl, ?yvU9_4⟩) (by assumption) ?_
                case yvU9_4 => (intro w hSw; (try dsimp only at hSw); go_simp; first | done | with_reducible rfl)
                simp only [List.getElem_toArray, List.getElem_cons_succ, List.getElem_cons_zero, Act.put, List.setIfInBounds_toArray, List.set_cons_zero, List.set_cons_succ]
                refine wpAnyH_take (i := 5) (v := ?vvU9_5) rfl (by kernel_rfl) (by kernel_rfl) (by kernel_rfl) (fun _ _ _ h => h) (Or.inl ⟨rfl, ?yvU9_5⟩) (by assumption) ?_
                case yvU9_5 => (intro w hSw; (try dsimp only at hSw); go_simp; first | done | with_reducible rfl)
                simp only [List.getElem_toArray, List.getElem_cons_succ, List.getElem_cons_zero, Act.put, List.setIfInBounds_toArray, List.set_cons_zero, List.set_cons_succ]
                refine wpAnyH_take (i := 7) (v := ?vvU9_7) rfl (by kernel_rfl) (by kernel_rfl) (by kernel_rfl) (fun _ _ _ h => h) (Or.inl ⟨rfl, ?yvU9_7⟩) (by assumption) ?_
                case yvU9_7 => (intro w hSw; (try dsimp only at hSw); go_simp; first | done | with_reducible rfl)
                simp only [List.getElem_toArray, List.getElem_cons_succ, List.getElem_cons_zero, Act.put, List.setIfInBounds_toArray, List.set_cons_zero, List.set_cons_succ]
                refine wpAnyH_take (i := 8) (v := ?vvU9_8) rfl (by kernel_rfl) (by kernel_rfl) (by kernel_rfl) (fun _ _ _ h => h) (Or.inl ⟨rfl, ?yvU9_8⟩) (by assumption) ?_
                case yvU9_8 => (intro w hSw; (try dsimp only at hSw); go_simp; first | done | with_reducible rfl)
                simp only [List.getElem_toArray, List.getElem_cons_succ, List.getElem_cons_zero, Act.put, List.setIfInBounds_toArray, List.set_cons_zero, List.set_cons_succ]
                refine wpAnyH_take (i := 9) (v := ?vvU9_9) rfl (by kernel_rfl) (by kernel_rfl) (by kernel_rfl) (fun _ _ _ h => h) (Or.inl ⟨rfl, ?yvU9_9⟩) (by assumption) ?_
                case yvU9_9 => (intro w hSw; (try dsimp only at hSw); go_simp; first | done | with_reducible rfl)
                simp only [List.getElem_toArray, List.getElem_cons_succ, List.getElem_cons_zero, Act.put, List.setIfInBounds_toArray, List.set_cons_zero, List.set_cons_succ]
                refine wpAnyH_take (i := 10) (v := ?vvU9_10) rfl (by kernel_rfl) (by kernel_rfl) (by kernel_rfl) (fun _ _ _ h => h) (Or.inl ⟨rfl, ?yvU9_10⟩) (by assumption) ?_
                case yvU9_10 => (intro w hSw; (try dsimp only at hSw); go_simp; first | done | with_reducible rfl)
                simp only [List.getElem_toArray, List.getElem_cons_succ, List.getElem_cons_zero, Act.put, List.setIfInBounds_toArray, List.set_cons_zero, List.set_cons_succ]
                refine wpAnyH_take (i := 11) (v := ?vvU9_11) rfl (by kernel_rfl) (by kernel_rfl) (by kernel_rfl) (fun _ _ _ h => h) (Or.inl ⟨rfl, ?yvU9_11⟩) (by assumption) ?_
                case yvU9_11 => (intro w hSw; (try dsimp only at hSw); go_simp; first | done | with_reducible rfl)
                simp only [List.getElem_toArray, List.getElem_cons_succ, List.getElem_cons_zero, Act.put, List.setIfInBounds_toArray, List.set_cons_zero, List.set_cons_succ]
                refine wpAnyH_ready (rs := [6]) (by kernel_rfl) (by simp) ?_
                refine AllReadyH.cons rfl (fun K hK => ?_) AllReadyH.nil
                go_simp
                refine (hsm.out _ (hI5v.out.below hHeld.1)).mono ?_
                rintro e w1 ⟨rfl, hb1⟩
                go_wp2_with fail
                refine hK.out _ _ ?_ (fun hHeld => ?_)
                · exact keep2 (by assumption) hb1
                clear hK K hb1
                try simp only [List.getElem_toArray, List.getElem_cons_succ, List.getElem_cons_zero, Act.put, List.setIfInBounds_toArray, List.set_cons_zero, List.set_cons_succ]
                refine wpAnyH_take (i := 12) (v := ?vvU9_12) rfl (by kernel_rfl) (by kernel_rfl) (by kernel_rfl) (fun _ _ _ h => h) (Or.inl ⟨rfl, ?yvU9_12⟩) (by assumption) ?_
                case yvU9_12 => (intro w hSw; (try dsimp only at hSw); go_simp; first | done | with_reducible rfl)
                simp only [List.getElem_toArray, List.getElem_cons_succ, List.getElem_cons_zero, Act.put, List.setIfInBounds_toArray, List.set_cons_zero, List.set_cons_succ]
                refine wpAnyH_take (i := 13) (v := ?vvU9_13) rfl (by kernel_rfl) (by kernel_rfl) (by kernel_rfl) (fun _ _ _ h => h) (Or.inl ⟨rfl, ?yvU9_13⟩) (by assumption) ?_
                case yvU9_13 => (intro w hSw; (try dsimp only at hSw); go_simp; first | done | with_reducible rfl)
                simp only [List.getElem_toArray, List.getElem_cons_succ, List.getElem_cons_zero, Act.put, List.setIfInBounds_toArray, List.set_cons_zero, List.set_cons_succ]
                refine wpAnyH_done (by kernel_rfl) ?_ _
                have hbw3 := Lib.hid (hbw2.out.step hHeld.1)
                go_wp2
                go_roundw
                case rel => exact ⟨k + 1, by omega, by go_num, hbw3.out⟩
                case measure => simp [intOf]; omega
              · have hbf := Lib.hid (hB.out.step hbw)
                have e7 : ((n3 : Int) == (n1 : Int)) = true := beq_iff_eq.2 (by have := hlen.out; omega)
                have e8 : (n3 == n1) = true := beq_iff_eq.2 hlen.out
                go_wp2
                go_ret
                exact ⟨rfl, hbf.out⟩
          · have zba : (tc == 0) = false := beq_eq_false_iff_ne.2 hzb
            have zbb : (tc != 0) = true := by simp [hzb]
            replace hzb := Lib.hid hzb
            go_wp2
            go_ret
            exact ⟨rfl, hB.out⟩
      · have z5a : (gc == 0) = false := beq_eq_false_iff_ne.2 hz5
        have z5b : (gc != 0) = true := by simp [hz5]
        replace hz5 := Lib.hid hz5
        by_cases hz7 : ac = 0
        · have z7a : (ac == 0) = true := beq_iff_eq.2 hz7
          have z7b : (ac != 0) = false := by simp [hz7]
          replace hz7 := Lib.hid hz7
          obtain ⟨⟨M, hM⟩, hsz⟩ := hL4.out al (by rw [hz7.out])
          replace hM := Lib.hid hM
          replace hsz := Lib.hid hsz
          go_wp2
          go_loopw [41] (fun i wz9 => ∃ k : Nat, k ≤ n14 ∧ i = .int .i64 k ∧ Below w21.heap.size w21 wz9) (fun i _ => n14 - (intOf i).toNat)
          case atStart => exact ⟨0, by omega, rfl, Below.refl _ _⟩
          case round =>
            rename World => wt
            obtain ⟨k, hk, rfl, hbw⟩ := hrel
            by_cases hlt : k < n14
            · obtain ⟨b, off, x, hA14, hbb, hx, d1⟩ := str_at (hI14.out.below hbw) hlt
              obtain ⟨b', off', y, hA14', hbb', hy, d0⟩ := str_at (hI14.out.below hbw) (k := 0) (by omega)
              rw [hA14] at hA14'
              injection hA14' with hA14'
              injection hA14' with e1 e2
              subst e1 e2
              rw [Nat.add_zero] at d0
              subst hA14
              have hpx := Lib.hid (fun W => f6point_any x (hsz.out x (List.mem_of_getElem? hx.out)) (hM.out x (List.mem_of_getElem? hx.out)) W)
              have hpy := Lib.hid (fun W => f6point_any y (hsz.out y (List.mem_of_getElem? hy.out)) (hM.out y (List.mem_of_getElem? hy.out)) W)
              have k0 : (0 : Int) ≤ (k : Int) := Int.natCast_nonneg _
              have k1 : (k : Int) < (n14 : Int) := by omega
              have k2 : (0 : Int) < (n14 : Int) := by omega
              have k3 : 0 < n14 := by omega
              have e5 : (M != M) = false := by simp
              have hbw2 := Lib.hid hbw
              clear hx hy
              go_wp2_with fail
              refine wp_region_held_drew (S := fun w' => Below wt.heap.size wt w' ∧ w'.cell? ⟨b, off + k, none⟩ = some (.string x) ∧ w'.cell? ⟨b, off, none⟩ = some (.string y)) (by kernel_rfl) ?_ (fun hHeld => ?_)
              · exact ⟨(Below.refl _ _).drew, d1, d0⟩
              refine wpAnyH_take (i := 0) (v := ?vtU10_0) rfl (by kernel_rfl) (by kernel_rfl) (by kernel_rfl) (fun _ _ _ h => h) (Or.inl ⟨rfl, ?ytU10_0⟩) (by assumption) ?_
              case ytU10_0 => (intro w hSw; (try dsimp only at hSw); go_simp; first | done | with_reducible rfl)
              simp only [List.getElem_toArray, List.getElem_cons_succ, List.getElem_cons_zero, Act.put, List.setIfInBounds_toArray, List.set_cons_zero, List.set_cons_succ]
              refine wpAnyH_take (i := 1) (v := ?vtU10_1) rfl (by kernel_rfl) (by kernel_rfl) (by kernel_rfl) (fun _ _ _ h => h) (Or.inl ⟨rfl, ?ytU10_1⟩) (by assumption) ?_
              case ytU10_1 => (intro w hSw; (try dsimp only at hSw); go_simp; first | done | with_reducible rfl)
              simp only [List.getElem_toArray, List.getElem_cons_succ, List.getElem_cons_zero, Act.put, List.setIfInBounds_toArray, List.set_cons_zero, List.set_cons_succ]
              refine wpAnyH_take (i := 2) (v := ?vtU10_2) rfl (by kernel_rfl) (by kernel_rfl) (by kernel_rfl) (fun _ _ _ h => h) (Or.inl ⟨rfl, ?ytU10_2⟩) (by assumption) ?_
              case ytU10_2 => (intro w hSw; (try dsimp only at hSw); go_simp; first | done | with_reducible rfl)
              simp only [List.getElem_toArray, List.getElem_cons_succ, List.getElem_cons_zero, Act.put, List.setIfInBounds_toArray, List.set_cons_zero, List.set_cons_succ]
              refine wpAnyH_take (i := 3) (v := ?vtU10_3) rfl (by kernel_rfl) (by kernel_rfl) (by kernel_rfl) (fun _ _ _ h => h) (Or.inl ⟨rfl, ?ytU10_3⟩) (by assumption) ?_
              case ytU10_3 => (intro w hSw; (try dsimp only at hSw); go_simp; first | done | with_reducible rfl)
              simp only [List.getElem_toArray, List.getElem_cons_succ, List.getElem_cons_zero, Act.put, List.setIfInBounds_toArray, List.set_cons_zero, List.set_cons_succ]
              refine wpAnyH_take (i := 5) (v := ?vtU10_5) rfl (by kernel_rfl) (by kernel_rfl) (by kernel_rfl) (fun _ _ _ h => h) (Or.inl ⟨rfl, ?ytU10_5⟩) (by assumption) ?_
              case ytU10_5 => (intro w hSw; (try dsimp only at hSw); go_simp; first | done | with_reducible rfl)
              simp only [List.getElem_toArray, List.getElem_cons_succ, List.getElem_cons_zero, Act.put, List.setIfInBounds_toArray, List.set_cons_zero, List.set_cons_succ]
              refine wpAnyH_take (i := 6) (v := ?vtU10_6) rfl (by kernel_rfl) (by kernel_rfl) (by kernel_rfl) (fun _ _ _ h => h) (Or.inl ⟨rfl, ?ytU10_6⟩) (by assumption) ?_
              case ytU10_6 => (intro w hSw; (try dsimp only at hSw); go_simp; first | done | with_reducible rfl)
              simp only [List.getElem_toArray, List.getElem_cons_succ, List.getElem_cons_zero, Act.put, List.setIfInBounds_toArray, List.set_cons_zero, List.set_cons_succ]
              refine wpAnyH_take (i := 7) (v := ?vtU10_7) rfl (by kernel_rfl) (by kernel_rfl) (by kernel_rfl) (fun _ _ _ h => h) (Or.inl ⟨rfl, ?ytU10_7⟩) (by assumption) ?_
              case ytU10_7 => (intro w hSw; (try dsimp only at hSw); go_simp; first | done | with_reducible rfl)
              simp only [List.getElem_toArray, List.getElem_cons_succ, List.getElem_cons_zero, Act.put, List.setIfInBounds_toArray, List.set_cons_zero, List.set_cons_succ]
              refine wpAnyH_ready (rs := [4]) (by kernel_rfl) (by simp) ?_
              refine AllReadyH.cons rfl (fun K hK => ?_) AllReadyH.nil
              go_simp
              refine (hpx.out _).mono ?_
              rintro e w1 ⟨rfl, hb1⟩
              go_wp2_with fail
              refine hK.out _ _ ?_ (fun hHeld => ?_)
              · exact keep3 (by assumption) hb1
              clear hK K hb1
              try simp only [List.getElem_toArray, List.getElem_cons_succ, List.getElem_cons_zero, Act.put, List.setIfInBounds_toArray, List.set_cons_zero, List.set_cons_succ]
              refine wpAnyH_ready (rs := [8]) (by kernel_rfl) (by simp) ?_
              refine AllReadyH.cons rfl (fun K hK => ?_) AllReadyH.nil
              go_simp
              refine (hpy.out _).mono ?_
              rintro e w1 ⟨rfl, hb1⟩
              go_wp2_with fail
              refine hK.out _ _ ?_ (fun hHeld => ?_)
              · exact keep3 (by assumption) hb1
              clear hK K hb1
              try simp only [List.getElem_toArray, List.getElem_cons_succ, List.getElem_cons_zero, Act.put, List.setIfInBounds_toArray, List.set_cons_zero, List.set_cons_succ]
              refine wpAnyH_take (i := 9) (v := ?vtU10_9) rfl (by kernel_rfl) (by kernel_rfl) (by kernel_rfl) (fun _ _ _ h => h) (Or.inl ⟨rfl, ?ytU10_9⟩) (by assumption) ?_
              case ytU10_9 => (intro w hSw; (try dsimp only at hSw); go_simp; first | done | with_reducible rfl)
              simp only [List.getElem_toArray, List.getElem_cons_succ, List.getElem_cons_zero, Act.put, List.setIfInBounds_toArray, List.set_cons_zero, List.set_cons_succ]
              refine wpAnyH_done (by kernel_rfl) ?_ _
              have hbw3 := Lib.hid (hbw2.out.step hHeld.1)
              go_wp2
              go_roundw
              case rel => exact ⟨k + 1, by omega, by go_num, hbw3.out⟩
              case measure => simp [intOf]; omega
            · clear hM hsz
              replace hI3 := Lib.hid (hI3.out.below hbw)
              replace hI5 := Lib.hid (hI5.out.below hbw)
              replace hI6 := Lib.hid (hI6.out.below hbw)
              replace hI8 := Lib.hid (hI8.out.below hbw)
              replace hI9 := Lib.hid (hI9.out.below hbw)
              replace hI14 := Lib.hid (hI14.out.below hbw)
              replace hB := Lib.hid (hB.out.step hbw)
              clear hbw
              by_cases hzb : tc = 0
              · have zba : (tc == 0) = true := beq_iff_eq.2 hzb
                have zbb : (tc != 0) = false := by simp [hzb]
                replace hzb := Lib.hid hzb
                obtain ⟨c1', c2', c3', c4', c5', c6', c7'⟩ := hL1.out tl (by rw [hzb.out])
                have hcl : cl = widL (colsN R) R := (Prod.mk.inj c1').1
                rw [← hcl] at c3' c4' c7'
                have hl5 := hI5.out.1
                rw [hl5] at c3' c7'
                have hlen : n3 = n1 := by rw [← hI3.out.1, c2', hRl.out]
                have hsm := Lib.hid (fun W (hW : Ints W A5 n5 cl) => f6sum_any A5 n5 c5 cl c3' c4' W hW rfl)
                have hs0 := sumI_range cl c4'
                rw [hl5] at hs0
                have hq0 : 0 ≤ gp * ((n5 : Int) - 1) ∨ n5 = 0 := by
                  by_cases h5 : n5 = 0
                  · exact .inr h5
                  · exact .inl (Int.mul_nonneg (by omega) (by omega))
                have hq1 : gp * ((n5 : Int) - 1) ≤ 20 * 12 := by
                  by_cases h5 : n5 = 0
                  · subst h5
                    omega
                  · exact Int.mul_le_mul (by omega) (by omega) (by omega) (by omega)
                have hq2 : -20 ≤ gp * ((n5 : Int) - 1) := by
                  rcases hq0 with h | h
                  · omega
                  · subst h
                    omega
                have hw1 : IntKind.i64.wrap ((n5 : Int) - 1) = (n5 : Int) - 1 := IntWalk.i64_in _ (by omega)
                have hw2 : IntKind.i64.wrap (gp * ((n5 : Int) - 1)) = gp * ((n5 : Int) - 1) := IntWalk.i64_in _ (by omega)
                have hw3 : IntKind.i64.wrap (sumI cl + gp * ((n5 : Int) - 1)) = sumI cl + gp * ((n5 : Int) - 1) := IntWalk.i64_in _ (by omega)
                replace c7' := Lib.hid c7'
                replace hlen := Lib.hid hlen
                generalize hX : gp * ((n5 : Int) - 1) = X at *
                generalize hY : sumI cl = Y at *
                have hw2' : IntKind.i64.wrap (gp * ((n5 : Int) - 1)) = X := by rw [hX]; exact hw2
                clear hw2
                replace hX := Lib.hid hX
                replace hY := Lib.hid hY
                clear c1' c2' c3' c4' c5' c6' hcl hl5 hs0 hq0 hq1 hq2
                go_wp2
                go_loopw [42] (fun i wz9 => ∃ k : Nat, k ≤ n3 ∧ i = .int .i64 k ∧ Below wt.heap.size wt wz9) (fun i _ => n3 - (intOf i).toNat)
                case atStart => exact ⟨0, by omega, rfl, Below.refl _ _⟩
                case round =>
                  rename World => wv
                  obtain ⟨k, hk, rfl, hbw⟩ := hrel
                  by_cases hlt : k < n3
                  · obtain ⟨b, off, x, hA3, hbb, hx, d1⟩ := str_at (hI3.out.below hbw) hlt
                    subst hA3
                    have hI5v := Lib.hid (hI5.out.below hbw)
                    have hxs := c7'.out x (List.mem_of_getElem? hx.out)
                    have hw4 : IntKind.i64.wrap (Y + X) = (x.size : Int) := by rw [hw3, hxs]
                    clear hw3
                    have e5 : ((x.size : Int) != (x.size : Int)) = false := by simp
                    have k0 : (0 : Int) ≤ (k : Int) := Int.natCast_nonneg _
                    have k1 : (k : Int) < (n3 : Int) := by omega
                    have hbw2 := Lib.hid hbw
                    clear hx hxs
                    go_wp2_with fail
                    refine wp_region_held_drew (S := fun w' => Below wv.heap.size wv w' ∧ w'.cell? ⟨b, off + k, none⟩ = some (.string x)) (by kernel_rfl) ?_ (fun hHeld => ?_)
                    · exact ⟨(Below.refl _ _).drew, d1⟩
                    refine wpAnyH_take (i := 0) (v := ?vvU11_0) rfl (by kernel_rfl) (by kernel_rfl) (by kernel_rfl) (fun _ _ _ h => h) (Or.inl ⟨rfl, ?yvU11_0⟩) (by assumption) ?_
                    case yvU11_0 => (intro w hSw; (try dsimp only at hSw); go_simp; first | done | with_reducible rfl)
                    simp only [List.getElem_toArray, List.getElem_cons_succ, List.getElem_cons_zero, Act.put, List.setIfInBounds_toArray, List.set_cons_zero, List.set_cons_succ]
                    refine wpAnyH_take (i := 1) (v := ?vvU11_1) rfl (by kernel_rfl) (by kernel_rfl) (by kernel_rfl) (fun _ _ _ h => h) (Or.inl ⟨rfl, ?yvU11_1⟩) (by assumption) ?_
                    case yvU11_1 => (intro w hSw; (try dsimp only at hSw); go_simp; first | done | with_reducible rfl)
                    simp only [List.getElem_toArray, List.getElem_cons_succ, List.getElem_cons_zero, Act.put, List.setIfInBounds_toArray, List.set_cons_zero, List.set_cons_succ]
                    refine wpAnyH_take (i := 2) (v := ?vvU11_2) rfl (by kernel_rfl) (by kernel_rfl) (by kernel_rfl) (fun _ _ _ h => h) (Or.inl ⟨rfl, ?yvU11_2⟩) (by assumption) ?_
                    case yvU11_2 => (intro w hSw; (try dsimp only at hSw); go_simp; first | done | with_reducible rfl)
                    simp only [List.getElem_toArray, List.getElem_cons_succ, List.getElem_cons_zero, Act.put, List.setIfInBounds_toArray, List.set_cons_zero, List.set_cons_succ]
                    refine wpAnyH_take (i := 3) (v := ?vvU11_3) rfl (by kernel_rfl) (by kernel_rfl) (by kernel_rfl) (fun _ _ _ h => h) (Or.inl ⟨rfl, ?yvU11_3⟩) (by assumption) ?_
                    case yvU11_3 => (intro w hSw; (try dsimp only at hSw); go_simp; first | done | with_reducible rfl)
                    simp only [List.getElem_toArray, List.getElem_cons_succ, List.getElem_cons_zero, Act.put, List.setIfInBounds_toArray, List.set_cons_zero, List.set_cons_succ]
                    refine wpAnyH_take (i := 4) (v := ?vvU11_4) rfl (by kernel_rfl) (by kernel_rfl) (by kernel_rfl) (fun _ _ _ h => h) (Or.inl ⟨rfl, ?yvU11_4⟩) (by assumption) ?_
                    case yvU11_4 => (intro w hSw; (try dsimp only at hSw); go_simp; first | done | with_reducible rfl)
                    simp only [List.getElem_toArray, List.getElem_cons_succ, List.getElem_cons_zero, Act.put, List.setIfInBounds_toArray, List.set_cons_zero, List.set_cons_succ]
                    refine wpAnyH_take (i := 5) (v := ?vvU11_5) rfl (by kernel_rfl) (by kernel_rfl) (by kernel_rfl) (fun _ _ _ h => h) (Or.inl ⟨rfl, ?yvU11_5⟩) (by assumption) ?_
                    case yvU11_5 => (intro w hSw; (try dsimp only at hSw); go_simp; first | done | with_reducible rfl)
                    simp only [List.getElem_toArray, List.getElem_cons_succ, List.getElem_cons_zero, Act.put, List.setIfInBounds_toArray, List.set_cons_zero, List.set_cons_succ]
                    refine wpAnyH_take (i := 7) (v := ?vvU11_7) rfl (by kernel_rfl) (by kernel_rfl) (by kernel_rfl) (fun _ _ _ h => h) (Or.inl ⟨rfl, ?yvU11_7⟩) (by assumption) ?_
                    case yvU11_7 => (intro w hSw; (try dsimp only at hSw); go_simp; first | done | with_reducible rfl)
                    simp only [List.getElem_toArray, List.getElem_cons_succ, List.getElem_cons_zero, Act.put, List.setIfInBounds_toArray, List.set_cons_zero, List.set_cons_succ]
                    refine wpAnyH_take (i := 8) (v := ?vvU11_8) rfl (by kernel_rfl) (by kernel_rfl) (by kernel_rfl) (fun _ _ _ h => h) (Or.inl ⟨rfl, ?yvU11_8⟩) (by assumption) ?_
                    case yvU11_8 => (intro w hSw; (try dsimp only at hSw); go_simp; first | done | with_reducible rfl)
                    simp only [List.getElem_toArray, List.getElem_cons_succ, List.getElem_cons_zero, Act.put, List.setIfInBounds_toArray, List.set_cons_zero, List.set_cons_succ]
                    refine wpAnyH_take (i := 9) (v := ?vvU11_9) rfl (by kernel_rfl) (by kernel_rfl) (by kernel_rfl) (fun _ _ _ h => h) (Or.inl ⟨rfl, ?yvU11_9⟩) (by assumption) ?_
                    case yvU11_9 => (intro w hSw; (try dsimp only at hSw); go_simp; first | done | with_reducible rfl)
                    simp only [List.getElem_toArray, List.getElem_cons_succ, List.getElem_cons_zero, Act.put, List.setIfInBounds_toArray, List.set_cons_zero, List.set_cons_succ]
                    refine wpAnyH_take (i := 10) (v := ?vvU11_10) rfl (by kernel_rfl) (by kernel_rfl) (by kernel_rfl) (fun _ _ _ h => h) (Or.inl ⟨rfl, ?yvU11_10⟩) (by assumption) ?_
                    case yvU11_10 => (intro w hSw; (try dsimp only at hSw); go_simp; first | done | with_reducible rfl)
                    simp only [List.getElem_toArray, List.getElem_cons_succ, List.getElem_cons_zero, Act.put, List.setIfInBounds_toArray, List.set_cons_zero, List.set_cons_succ]
                    refine wpAnyH_take (i := 11) (v := ?vvU11_11) rfl (by kernel_rfl) (by kernel_rfl) (by kernel_rfl) (fun _ _ _ h => h) (Or.inl ⟨rfl, ?yvU11_11⟩) (by assumption) ?_
                    case yvU11_11 => (intro w hSw; (try dsimp only at hSw); go_simp; first | done | with_reducible rfl)
                    simp only [List.getElem_toArray, List.getElem_cons_succ, List.getElem_cons_zero, Act.put, List.setIfInBounds_toArray, List.set_cons_zero, List.set_cons_succ]
                    refine wpAnyH_ready (rs := [6]) (by kernel_rfl) (by simp) ?_
                    refine AllReadyH.cons rfl (fun K hK => ?_) AllReadyH.nil
                    go_simp
                    refine (hsm.out _ (hI5v.out.below hHeld.1)).mono ?_
                    rintro e w1 ⟨rfl, hb1⟩
                    go_wp2_with fail
                    refine hK.out _ _ ?_ (fun hHeld => ?_)
                    · exact keep2 (by assumption) hb1
                    clear hK K hb1
                    try simp only [List.getElem_toArray, List.getElem_cons_succ, List.getElem_cons_zero, Act.put, List.setIfInBounds_toArray, List.set_cons_zero, List.set_cons_succ]
                    refine wpAnyH_take (i := 12) (v := ?vvU11_12) rfl (by kernel_rfl) (by kernel_rfl) (by kernel_rfl) (fun _ _ _ h => h) (Or.inl ⟨rfl, ?yvU11_12⟩) (by assumption) ?_
                    case yvU11_12 => (intro w hSw; (try dsimp only at hSw); go_simp; first | done | with_reducible rfl)
                    simp only [List.getElem_toArray, List.getElem_cons_succ, List.getElem_cons_zero, Act.put, List.setIfInBounds_toArray, List.set_cons_zero, List.set_cons_succ]
                    refine wpAnyH_take (i := 13) (v := ?vvU11_13) rfl (by kernel_rfl) (by kernel_rfl) (by kernel_rfl) (fun _ _ _ h => h) (Or.inl ⟨rfl, ?yvU11_13⟩) (by assumption) ?_
                    case yvU11_13 => (intro w hSw; (try dsimp only at hSw); go_simp; first | done | with_reducible rfl)
                    simp only [List.getElem_toArray, List.getElem_cons_succ, List.getElem_cons_zero, Act.put, List.setIfInBounds_toArray, List.set_cons_zero, List.set_cons_succ]
                    refine wpAnyH_done (by kernel_rfl) ?_ _
                    have hbw3 := Lib.hid (hbw2.out.step hHeld.1)
                    go_wp2
                    go_roundw
                    case rel => exact ⟨k + 1, by omega, by go_num, hbw3.out⟩
                    case measure => simp [intOf]; omega
                  · have hbf := Lib.hid (hB.out.step hbw)
                    have e7 : ((n3 : Int) == (n1 : Int)) = true := beq_iff_eq.2 (by have := hlen.out; omega)
                    have e8 : (n3 == n1) = true := beq_iff_eq.2 hlen.out
                    go_wp2
                    go_ret
                    exact ⟨rfl, hbf.out⟩
              · have zba : (tc == 0) = false := beq_eq_false_iff_ne.2 hzb
                have zbb : (tc != 0) = true := by simp [hzb]
                replace hzb := Lib.hid hzb
                go_wp2
                go_ret
                exact ⟨rfl, hB.out⟩
        · have z7a : (ac == 0) = false := beq_eq_false_iff_ne.2 hz7
          have z7b : (ac != 0) = true := by simp [hz7]
          replace hz7 := Lib.hid hz7
          by_cases hzb : tc = 0
          · have zba : (tc == 0) = true := beq_iff_eq.2 hzb
            have zbb : (tc != 0) = false := by simp [hzb]
            replace hzb := Lib.hid hzb
            obtain ⟨c1', c2', c3', c4', c5', c6', c7'⟩ := hL1.out tl (by rw [hzb.out])
            have hcl : cl = widL (colsN R) R := (Prod.mk.inj c1').1
            rw [← hcl] at c3' c4' c7'
            have hl5 := hI5.out.1
            rw [hl5] at c3' c7'
            have hlen : n3 = n1 := by rw [← hI3.out.1, c2', hRl.out]
            have hsm := Lib.hid (fun W (hW : Ints W A5 n5 cl) => f6sum_any A5 n5 c5 cl c3' c4' W hW rfl)
            have hs0 := sumI_range cl c4'
            rw [hl5] at hs0
            have hq0 : 0 ≤ gp * ((n5 : Int) - 1) ∨ n5 = 0 := by
              by_cases h5 : n5 = 0
              · exact .inr h5
              · exact .inl (Int.mul_nonneg (by omega) (by omega))
            have hq1 : gp * ((n5 : Int) - 1) ≤ 20 * 12 := by
              by_cases h5 : n5 = 0
              · subst h5
                omega
              · exact Int.mul_le_mul (by omega) (by omega) (by omega) (by omega)
            have hq2 : -20 ≤ gp * ((n5 : Int) - 1) := by
              rcases hq0 with h | h
              · omega
              · subst h
                omega
            have hw1 : IntKind.i64.wrap ((n5 : Int) - 1) = (n5 : Int) - 1 := IntWalk.i64_in _ (by omega)
            have hw2 : IntKind.i64.wrap (gp * ((n5 : Int) - 1)) = gp * ((n5 : Int) - 1) := IntWalk.i64_in _ (by omega)
            have hw3 : IntKind.i64.wrap (sumI cl + gp * ((n5 : Int) - 1)) = sumI cl + gp * ((n5 : Int) - 1) := IntWalk.i64_in _ (by omega)
            replace c7' := Lib.hid c7'
            replace hlen := Lib.hid hlen
            generalize hX : gp * ((n5 : Int) - 1) = X at *
            generalize hY : sumI cl = Y at *
            have hw2' : IntKind.i64.wrap (gp * ((n5 : Int) - 1)) = X := by rw [hX]; exact hw2
            clear hw2
            replace hX := Lib.hid hX
            replace hY := Lib.hid hY
            clear c1' c2' c3' c4' c5' c6' hcl hl5 hs0 hq0 hq1 hq2
            go_wp2
            go_loopw [42] (fun i wz9 => ∃ k : Nat, k ≤ n3 ∧ i = .int .i64 k ∧ Below w21.heap.size w21 wz9) (fun i _ => n3 - (intOf i).toNat)
            case atStart => exact ⟨0, by omega, rfl, Below.refl _ _⟩
            case round =>
              rename World => wv
              obtain ⟨k, hk, rfl, hbw⟩ := hrel
              by_cases hlt : k < n3
              · obtain ⟨b, off, x, hA3, hbb, hx, d1⟩ := str_at (hI3.out.below hbw) hlt
                subst hA3
                have hI5v := Lib.hid (hI5.out.below hbw)
                have hxs := c7'.out x (List.mem_of_getElem? hx.out)
                have hw4 : IntKind.i64.wrap (Y + X) = (x.size : Int) := by rw [hw3, hxs]
                clear hw3
                have e5 : ((x.size : Int) != (x.size : Int)) = false := by simp
                have k0 : (0 : Int) ≤ (k : Int) := Int.natCast_nonneg _
                have k1 : (k : Int) < (n3 : Int) := by omega
                have hbw2 := Lib.hid hbw
                clear hx hxs
                go_wp2_with fail
                refine wp_region_held_drew (S := fun w' => Below wv.heap.size wv w' ∧ w'.cell? ⟨b, off + k, none⟩ = some (.string x)) (by kernel_rfl) ?_ (fun hHeld => ?_)
                · exact ⟨(Below.refl _ _).drew, d1⟩
                refine wpAnyH_take (i := 0) (v := ?vvU12_0) rfl (by kernel_rfl) (by kernel_rfl) (by kernel_rfl) (fun _ _ _ h => h) (Or.inl ⟨rfl, ?yvU12_0⟩) (by assumption) ?_
                case yvU12_0 => (intro w hSw; (try dsimp only at hSw); go_simp; first | done | with_reducible rfl)
                simp only [List.getElem_toArray, List.getElem_cons_succ, List.getElem_cons_zero, Act.put, List.setIfInBounds_toArray, List.set_cons_zero, List.set_cons_succ]
                refine wpAnyH_take (i := 1) (v := ?vvU12_1) rfl (by kernel_rfl) (by kernel_rfl) (by kernel_rfl) (fun _ _ _ h => h) (Or.inl ⟨rfl, ?yvU12_1⟩) (by assumption) ?_
                case yvU12_1 => (intro w hSw; (try dsimp only at hSw); go_simp; first | done | with_reducible rfl)
                simp only [List.getElem_toArray, List.getElem_cons_succ, List.getElem_cons_zero, Act.put, List.setIfInBounds_toArray, List.set_cons_zero, List.set_cons_succ]
                refine wpAnyH_take (i := 2) (v := ?vvU12_2) rfl (by kernel_rfl) (by kernel_rfl) (by kernel_rfl) (fun _ _ _ h => h) (Or.inl ⟨rfl, ?yvU12_2⟩) (by assumption) ?_
                case yvU12_2 => (intro w hSw; (try dsimp only at hSw); go_simp; first | done | with_reducible rfl)
                simp only [List.getElem_toArray, List.getElem_cons_succ, List.getElem_cons_zero, Act.put, List.setIfInBounds_toArray, List.set_cons_zero, List.set_cons_succ]
                refine wpAnyH_take (i := 3) (v := ?vvU12_3) rfl (by kernel_rfl) (by kernel_rfl) (by kernel_rfl) (fun _ _ _ h => h) (Or.inl ⟨rfl, ?yvU12_3⟩) (by assumption) ?_
                case yvU12_3 => (intro w hSw; (try dsimp only at hSw); go_simp; first | done | with_reducible rfl)
                simp only [List.getElem_toArray, List.getElem_cons_succ, List.getElem_cons_zero, Act.put, List.setIfInBounds_toArray, List.set_cons_zero, List.set_cons_succ]
                refine wpAnyH_take (i := 4) (v := ?vvU12_4) rfl (by kernel_rfl) (by kernel_rfl) (by kernel_rfl) (fun _ _ _ h => h) (Or.inl ⟨rfl, ?yvU12_4⟩) (by assumption) ?_
                case yvU12_4 => (intro w hSw; (try dsimp only at hSw); go_simp; first | done | with_reducible rfl)
                simp only [List.getElem_toArray, List.getElem_cons_succ, List.getElem_cons_zero, Act.put, List.setIfInBounds_toArray, List.set_cons_zero, List.set_cons_succ]
                refine wpAnyH_take (i := 5) (v := ?vvU12_5) rfl (by kernel_rfl) (by kernel_rfl) (by kernel_rfl) (fun _ _ _ h => h) (Or.inl ⟨rfl, ?yvU12_5⟩) (by assumption) ?_
                case yvU12_5 => (intro w hSw; (try dsimp only at hSw); go_simp; first | done | with_reducible rfl)
                simp only [List.getElem_toArray, List.getElem_cons_succ, List.getElem_cons_zero, Act.put, List.setIfInBounds_toArray, List.set_cons_zero, List.set_cons_succ]
                refine wpAnyH_take (i := 7) (v := ?vvU12_7) rfl (by kernel_rfl) (by kernel_rfl) (by kernel_rfl) (fun _ _ _ h => h) (Or.inl ⟨rfl, ?yvU12_7⟩) (by assumption) ?_
                case yvU12_7 => (intro w hSw; (try dsimp only at hSw); go_simp; first | done | with_reducible rfl)
                simp only [List.getElem_toArray, List.getElem_cons_succ, List.getElem_cons_zero, Act.put, List.setIfInBounds_toArray, List.set_cons_zero, List.set_cons_succ]
                refine wpAnyH_take (i := 8) (v := ?vvU12_8) rfl (by kernel_rfl) (by kernel_rfl) (by kernel_rfl) (fun _ _ _ h => h) (Or.inl ⟨rfl, ?yvU12_8⟩) (by assumption) ?_
                case yvU12_8 => (intro w hSw; (try dsimp only at hSw); go_simp; first | done | with_reducible rfl)
                simp only [List.getElem_toArray, List.getElem_cons_succ, List.getElem_cons_zero, Act.put, List.setIfInBounds_toArray, List.set_cons_zero, List.set_cons_succ]
                refine wpAnyH_take (i := 9) (v := ?vvU12_9) rfl (by kernel_rfl) (by kernel_rfl) (by kernel_rfl) (fun _ _ _ h => h) (Or.inl ⟨rfl, ?yvU12_9⟩) (by assumption) ?_
                case yvU12_9 => (intro w hSw; (try dsimp only at hSw); go_simp; first | done | with_reducible rfl)
                simp only [List.getElem_toArray, List.getElem_cons_succ, List.getElem_cons_zero, Act.put, List.setIfInBounds_toArray, List.set_cons_zero, List.set_cons_succ]
                refine wpAnyH_take (i := 10) (v := ?vvU12_10) rfl (by kernel_rfl) (by kernel_rfl) (by kernel_rfl) (fun _ _ _ h => h) (Or.inl ⟨rfl, ?yvU12_10⟩) (by assumption) ?_
                case yvU12_10 => (intro w hSw; (try dsimp only at hSw); go_simp; first | done | with_reducible rfl)
                simp only [List.getElem_toArray, List.getElem_cons_succ, List.getElem_cons_zero, Act.put, List.setIfInBounds_toArray, List.set_cons_zero, List.set_cons_succ]
                refine wpAnyH_take (i := 11) (v := ?vvU12_11) rfl (by kernel_rfl) (by kernel_rfl) (by kernel_rfl) (fun _ _ _ h => h) (Or.inl ⟨rfl, ?yvU12_11⟩) (by assumption) ?_
                case yvU12_11 => (intro w hSw; (try dsimp only at hSw); go_simp; first | done | with_reducible rfl)
                simp only [List.getElem_toArray, List.getElem_cons_succ, List.getElem_cons_zero, Act.put, List.setIfInBounds_toArray, List.set_cons_zero, List.set_cons_succ]
                refine wpAnyH_ready (rs := [6]) (by kernel_rfl) (by simp) ?_
                refine AllReadyH.cons rfl (fun K hK => ?_) AllReadyH.nil
                go_simp
                refine (hsm.out _ (hI5v.out.below hHeld.1)).mono ?_
                rintro e w1 ⟨rfl, hb1⟩
                go_wp2_with fail
                refine hK.out _ _ ?_ (fun hHeld => ?_)
                · exact keep2 (by assumption) hb1
                clear hK K hb1
                try simp only [List.getElem_toArray, List.getElem_cons_succ, List.getElem_cons_zero, Act.put, List.setIfInBounds_toArray, List.set_cons_zero, List.set_cons_succ]
                refine wpAnyH_take (i := 12) (v := ?vvU12_12) rfl (by kernel_rfl) (by kernel_rfl) (by kernel_rfl) (fun _ _ _ h => h) (Or.inl ⟨rfl, ?yvU12_12⟩) (by assumption) ?_
                case yvU12_12 => (intro w hSw; (try dsimp only at hSw); go_simp; first | done | with_reducible rfl)
                simp only [List.getElem_toArray, List.getElem_cons_succ, List.getElem_cons_zero, Act.put, List.setIfInBounds_toArray, List.set_cons_zero, List.set_cons_succ]
                refine wpAnyH_take (i := 13) (v := ?vvU12_13) rfl (by kernel_rfl) (by kernel_rfl) (by kernel_rfl) (fun _ _ _ h => h) (Or.inl ⟨rfl, ?yvU12_13⟩) (by assumption) ?_
                case yvU12_13 => (intro w hSw; (try dsimp only at hSw); go_simp; first | done | with_reducible rfl)
                simp only [List.getElem_toArray, List.getElem_cons_succ, List.getElem_cons_zero, Act.put, List.setIfInBounds_toArray, List.set_cons_zero, List.set_cons_succ]
                refine wpAnyH_done (by kernel_rfl) ?_ _
                have hbw3 := Lib.hid (hbw2.out.step hHeld.1)
                go_wp2
                go_roundw
                case rel => exact ⟨k + 1, by omega, by go_num, hbw3.out⟩
                case measure => simp [intOf]; omega
              · have hbf := Lib.hid (hB.out.step hbw)
                have e7 : ((n3 : Int) == (n1 : Int)) = true := beq_iff_eq.2 (by have := hlen.out; omega)
                have e8 : (n3 == n1) = true := beq_iff_eq.2 hlen.out
                go_wp2
                go_ret
                exact ⟨rfl, hbf.out⟩
          · have zba : (tc == 0) = false := beq_eq_false_iff_ne.2 hzb
            have zbb : (tc != 0) = true := by simp [hzb]
            replace hzb := Lib.hid hzb
            go_wp2
            go_ret
            exact ⟨rfl, hB.out⟩
end Go.Proofs.Ytmgoidngecimbaa
