/- DistanceOf: the program's function. -/
import Derived.Test.YticggclpaalhgaaDst0
namespace Go.Proofs.Yticggclpaalhgaa
open Go.RowKit Go.ChangeMaps Go.MapKept
set_option linter.unusedVariables false
set_option linter.unusedSimpArgs false

def decE (p : Value × Value) : UInt8 × Nat × Nat := match p with
  | (.int _ k, .agg ⟨[.int _ r, .int _ c]⟩) => (UInt8.ofNat k.toNat, r.toNat, c.toNat)
  | _ => (0, 0, 0)
theorem decE_is (e : UInt8 × Nat × Nat) : decE (byteV e.1, spotV6 e.2) = e := by
  obtain ⟨b, r, c⟩ := e
  simp [decE, byteV, spotV6]
def sumG (ys : List ByteArray) : List (Value × Value) → Int
  | [] => 0
  | x :: l => distE ys (decE x) + sumG ys l
theorem sumG_perm (ys : List ByteArray) {x y : List (Value × Value)} (h : x.Perm y) : sumG ys x = sumG ys y := by
  induction h with
  | nil => rfl
  | cons e _ ih => simp [sumG, ih]
  | swap e f l => simp only [sumG]; omega
  | trans _ _ ih1 ih2 => exact ih1.trans ih2
theorem sumG_spots (ys : List ByteArray) : ∀ S : Spots, sumG ys ((spotL6 S).map fun x => (byteV x.1, x.2)) = sumE ys S
  | [] => rfl
  | e :: S => by
    have ih := sumG_spots ys S
    simp only [spotL6, List.map_cons, sumG, sumE] at ih ⊢
    rw [ih, decE_is]
theorem spotL6_snoc (S : Spots) (e : UInt8 × Nat × Nat) : spotL6 (S ++ [e]) = spotL6 S ++ [(e.1, spotV6 e.2)] := by simp [spotL6]

set_option maxRecDepth 100000 in
set_option maxHeartbeats 3200000 in
theorem dst_impl (A : Option Addr) (n c : Nat) (xs : List ByteArray) (B : Option Addr) (m d : Nat) (ys : List ByteArray) (w : World) (h : Strs w A n xs) (hn : n ≤ 1048576) (hs : ∀ s ∈ xs, s.size ≤ 1048576) (h' : Strs w B m ys) (hm : m ≤ 1048576) (hs' : ∀ s ∈ ys, s.size ≤ 1048576) :
    Calls Try.prog 36 #[.agg #[.slice A n c], .agg #[.slice B m d]] w fun e w' => e = .returned (.tuple #[.int .i64 (dstR xs ys).1, .int .i64 (dstR xs ys).2]) ∧ Below w.heap.size w w' := by
  have hb0 := Lib.hid (below_a2 w (.cells #[.slice A n c] 27) (.cells #[.slice B m d] 27))
  have hq := Lib.hid (cmp_any A n c xs B m d ys _ (h.below hb0.out) hn hs (h'.below hb0.out) hm hs')
  go_enter Try.func36, Try.ntmps36
  go_wp2_with fail
  refine hq.out.mono ?_
  rintro e w1 (⟨h1, M1, M2, rfl, hM0, hN0, hM1, hN1, hb1⟩ | ⟨h1, rfl, hb1⟩)
  · have hbw := Lib.hid (hb0.out.step hb1)
    obtain ⟨⟨o1, o2⟩, o3, o4⟩ := bothCode_0 h1
    have hres : Hid (dstR xs ys = (sumE ys (keysFrom 0 xs), 0)) := Lib.hid (by simp [dstR, h1])
    have hkl := Lib.hid (keys_len48 o1)
    have hlk : Hid (∀ e ∈ keysFrom 0 xs, ∃ p, look6 e.1 (keysFrom 0 ys) = some p ∧ p.1 ≤ 3 ∧ p.2 ≤ 11 ∧ e.2.1 ≤ 3 ∧ e.2.2 ≤ 11) := Lib.hid fun e he => by
      obtain ⟨p, hp⟩ := Option.isSome_iff_exists.1 (look6_some.2 (allIn_iff.1 o4 e.1 (List.mem_map_of_mem (f := (·.1)) he)))
      have q1 := key_in o1 he
      have q2 := key_in o2 (look6_mem hp)
      exact ⟨p, hp, q2.1, q2.2, q1.1, q1.2⟩
    have hbd : Hid (∀ S : Spots, (∀ e ∈ S, e ∈ keysFrom 0 xs) → 0 ≤ sumE ys S ∧ sumE ys S ≤ 14 * (S.length : Int)) := Lib.hid fun S hS => sum_bd fun e he => dist_bd o1 o2 (hS e he)
    have hMl := hM1.lt
    have hNl := hN1.lt
    obtain ⟨wr0, hrun0, hrg0, hbr0, hsz0⟩ := hM1.range (P := Try.prog) (t := 57) Try.underlying57
    have hN1' := hN1.below hbr0 hNl
    have hbw3 := Lib.hid (hbw.out.step hbr0)
    have hz2 := hbw.out.size
    simp only [World.size_alloc] at hM0 hN0
    generalize hI : w1.heap.size = wI at *
    clear h1 o1 o2 o3 o4 hb1 hM1 hN1
    go_wp2
    have hne : wI ≠ M1 := by omega
    have hne2 : wI ≠ M2 := by omega
    go_loopw [9, 10, 11] (fun v _ _ wr => ∃ S : Spots, v = .int .i64 (sumE ys S) ∧ Ranging byteV wr wI M1 (spotL6 (keysFrom 0 xs)) (spotL6 S) ∧ (∀ e ∈ S, e ∈ keysFrom 0 xs) ∧ MapIs byteV wr M2 (spotL6 (keysFrom 0 ys)) ∧ Below w.heap.size w wr) (fun _ _ _ wr => (spotL6 (keysFrom 0 xs)).length - (wr.iterSeen wI).size)
    case atStart => exact ⟨[], rfl, hrg0, by simp, hN1', hbw3.out⟩
    case round =>
      obtain ⟨S, rfl, hrg, hsub, hN, hbr⟩ := hrel
      replace hsub := Lib.hid hsub
      replace hbr := Lib.hid hbr
      have hseen := Lib.hid hrg.seen
      rcases hrg.next (P := Try.prog) hne with ⟨hall, hdl, ⟨p, hp1, hp2⟩, hrun⟩ | ⟨k, v, w4, hkv, hdl, hrun, hent, hrg4, hgr4⟩
      · have hfin : Hid (sumE ys S = sumE ys (keysFrom 0 xs)) := Lib.hid (by
          rw [← sumG_spots ys S, ← hp2, sumG_perm ys hp1, sumG_spots])
        clear hall hp1 hp2 hrg hne
        go_wp2
        go_ret2
        exact ⟨by rw [hres.out, ← hfin.out]; rfl, hbr.out⟩
      · have hN4 := (hN.block (hgr4.block M2 hN.lt (by simp; omega)))
        have hb4 := Lib.hid (hbr.out.grown hgr4 hbr.out.size (fun j hj => by cases hj; omega))
        have hNl4 := hN4.lt
        have hIl4 := hrg4.lt.1
        obtain ⟨e0, he0, hke⟩ := List.mem_map.1 hkv
        simp only [Prod.mk.injEq] at hke
        obtain ⟨rfl, rfl⟩ := hke
        obtain ⟨p, hp, i1, i2, i3, i4⟩ := hlk.out e0 he0
        obtain ⟨b1, b2⟩ := hbd.out S hsub.out
        have hval : (valOf e0.1 (spotL6 (keysFrom 0 ys))).getD (.agg #[.int .i64 0, .int .i64 0]) = .agg #[.int .i64 (p.1 : Int), .int .i64 (p.2 : Int)] := by rw [val_spot6, hp]; rfl
        have hlen : S.length ≤ 48 := by
          simp only [spotL6, List.length_map] at hdl
          have := hkl.out
          omega
        have hs4 : Hid (∀ e ∈ S ++ [e0], e ∈ keysFrom 0 xs) := Lib.hid fun x hx => by
          rcases List.mem_append.1 hx with h | h
          · exact hsub.out x h
          · simp only [List.mem_singleton] at h
            subst h
            exact he0
        have hnx : Hid (sumE ys (S ++ [e0]) = sumE ys S + (absI ((p.1 : Int) - e0.2.1) + absI ((p.2 : Int) - e0.2.2))) := Lib.hid (by
          rw [sumE_append]
          simp [sumE, distE, hp])
        have hd1 := Lib.hid (fun W => dist_impl e0.2.1 e0.2.2 p.1 p.2 (by omega) (by omega) (by omega) (by omega) W)
        obtain ⟨y1, y2⟩ := absI_bd (n := (p.1 : Int) - e0.2.1) (k := 1000) (by omega)
        obtain ⟨y3, y4⟩ := absI_bd (n := (p.2 : Int) - e0.2.2) (k := 1000) (by omega)
        generalize hu : absI ((p.1 : Int) - e0.2.1) + absI ((p.2 : Int) - e0.2.2) = u at *
        have hu1 : 0 ≤ u := by omega
        have hu2 : u ≤ 2000 := by omega
        rw [← spotL6_snoc] at hrg4
        generalize sumE ys S = T at *
        replace hval := Lib.hid hval
        replace hrg4 := Lib.hid hrg4
        simp only [spotV6] at hrun hent
        clear hp hkv he0 hu y1 y2 y3 y4
        have hN5 := Lib.hid (hN4.below (B := w4.heap.size) (below_a1 w4 (.cells #[.int .i64 (e0.2.1 : Int), .int .i64 (e0.2.2 : Int)] 61)) hNl4)
        go_wp2_with (first | (at_lookup; refine wpList_look1_is rfl _ _ _ 5 61 rfl byteKey6 Try.underlying57 (zero_spot6 _) rfl hN5.out e0.1 rfl hval.out ?_) | (go_at_call 71; refine (hd1.out _).mono ?_; rintro e w5 ⟨rfl, hb5⟩))
        have hb45 := Lib.hid ((below_a1 w4 (.cells #[.int .i64 (e0.2.1 : Int), .int .i64 (e0.2.2 : Int)] 61)).step hb5)
        go_roundw
        case rel => exact ⟨_, by rw [hnx.out], hrg4.out.below hb45.out, hs4.out, hN4.below (B := w4.heap.size) hb45.out hN4.lt, hb4.out.trans (hb45.out.mono hb4.out.size)⟩
        case measure =>
          rw [(hrg4.out.below hb45.out).seen, hseen.out]
          simp only [spotL6, List.length_map, List.length_append, List.length_cons, List.length_nil] at hdl ⊢
          omega
  · have hbw := Lib.hid (hb0.out.step hb1)
    have hres : Hid (dstR xs ys = (0, bothCode xs ys)) := Lib.hid (by simp [dstR, h1])
    generalize bothCode xs ys = code at *
    have g0 : (code == 0) = false := beq_eq_false_iff_ne.2 h1
    have g1 : (code != 0) = true := by simp [h1]
    clear h1
    go_wp2
    go_ret2
    exact ⟨by rw [hres.out]; rfl, hbw.out⟩
end Go.Proofs.Yticggclpaalhgaa
