/- Letters of a board and a text of them that are drawn. -/
import Derived.Test.YtgiphckiiapcaaaSrcT
import Derived.Test.YtgiphckiiapcaaaDrawn
import Derived.Test.YtgiphckiiapcaaaByteR
import Derived.Test.YtgiphckiiapcaaaPair1
namespace Go.Proofs.Ytgiphckiiapcaaa
open Go.RowKit
set_option linter.unusedVariables false
set_option linter.unusedSimpArgs false

/-- The layouts of five letters. -/
def lay5 : List ByteArray := [⟨#[97, 98, 99, 100, 101]⟩, ⟨#[102, 101, 100, 99, 98]⟩, ⟨#[101, 97, 116, 32, 115]⟩, ⟨#[122, 121, 120, 119, 118]⟩]
def lay6 : List ByteArray := [⟨#[97, 98, 99, 100, 101, 102]⟩, ⟨#[102, 101, 100, 99, 98, 97]⟩, ⟨#[101, 97, 116, 32, 115, 110]⟩, ⟨#[122, 121, 120, 119, 118, 117]⟩]
theorem lay6_cut {x : ByteArray} (h : x ∈ lay6) : x.size = 6 ∧ x.extract 0 5 ∈ lay5 := by
  simp only [lay6, List.mem_cons, List.not_mem_nil, or_false] at h
  rcases h with rfl | rfl | rfl | rfl
  · exact ⟨rfl, List.mem_of_getElem? (i := 0) (by kernel_rfl)⟩
  · exact ⟨rfl, List.mem_of_getElem? (i := 1) (by kernel_rfl)⟩
  · exact ⟨rfl, List.mem_of_getElem? (i := 2) (by kernel_rfl)⟩
  · exact ⟨rfl, List.mem_of_getElem? (i := 3) (by kernel_rfl)⟩
theorem lay5_size {x : ByteArray} (h : x ∈ lay5) : x.size = 5 := by
  simp only [lay5, List.mem_cons, List.not_mem_nil, or_false] at h
  rcases h with rfl | rfl | rfl | rfl <;> rfl
theorem ge_own {w : World} {base : Nat} {E : TypeId} {size n g : Nat} {v : Value} {xs : List Value} (h : w.ownsRow base E size v n xs) (hg : v.ownBlock = some g) : base ≤ g := by
  obtain ⟨_, ⟨rfl, _⟩ | ⟨g', cap, cur, rfl, hb, _⟩⟩ := h
  · cases hg
  · cases hg; exact hb
def LtOut (r t : Nat) (w : World) (e : Ending) (w' : World) : Prop :=
  ∃ (L : ByteArray) (l : List UInt8), e = .returned (.tuple #[.string L, .string ⟨l.toArray⟩]) ∧ L ∈ lay5 ∧ l.length ≤ 19 ∧ (∀ c ∈ l, c ∈ L.data.toList) ∧ Drawn r w.heap.size w w'

set_option maxRecDepth 100000 in
set_option maxHeartbeats 4000000 in
theorem l07letters_any (r t : Nat) (w : World) (h : SrcAt w r t) (ht : t ≤ 1000000) :
    Calls Try.prog 40 #[.pointer (some ⟨r, 0, none⟩), .int .i64 5] w (LtOut r t w) := by
  have hrl := h.lt
  obtain ⟨i0, hi, hz0, hz1, hz2⟩ := info_parts Try.infoU8
  have hb0 := below_a1 w (.cells (lay6.map Value.string).toArray 9)
  have htx := Lib.hid (text_any r t (some ⟨w.heap.size, 0, none⟩) 4 4 lay6 _ (h.below hb0) (by omega) (strs_lit w lay6 9 4 rfl) (by omega) (by omega) (fun p hp => by cases hp; simp only; omega))
  have hd0 := Lib.hid ((Drawn.refl r w.heap.size w).below hb0 (Nat.le_refl _))
  have hN0 : w.heap.size ≤ (w.alloc (.cells (lay6.map Value.string).toArray 9)).heap.size := hb0.size
  have hm5 : min (5 : Int) 6 = 5 := by decide
  have hmin := fun W => min_spec 5 6 W
  rw [hm5] at hmin
  replace hmin := Lib.hid hmin
  clear hm5
  have hlit : (lay6.map Value.string).toArray = #[.string ⟨#[97, 98, 99, 100, 101, 102]⟩, .string ⟨#[102, 101, 100, 99, 98, 97]⟩, .string ⟨#[101, 97, 116, 32, 115, 110]⟩, .string ⟨#[122, 121, 120, 119, 118, 117]⟩] := rfl
  rw [hlit] at htx hd0 hN0
  clear hb0 hlit
  go_enter Try.func40, Try.ntmps40
  go_wp2_with fail
  generalize hw0 : w.alloc (.cells #[.string ⟨#[97, 98, 99, 100, 101, 102]⟩, .string ⟨#[102, 101, 100, 99, 98, 97]⟩, .string ⟨#[101, 97, 116, 32, 115, 110]⟩, .string ⟨#[122, 121, 120, 119, 118, 117]⟩] 9) = w0 at *
  replace hw0 := Lib.hid hw0
  refine (htx.out).mono ?_
  rintro e w1 ⟨x, hx, rfl, hs, hg⟩
  obtain ⟨hx6, hL⟩ := lay6_cut hx
  have hd1 := Lib.hid (hd0.out.pick hg hN0)
  have hN1 := Nat.le_trans hN0 hg.size
  have hsz : (5 : Int) ≤ (x.size : Int) := by omega
  replace hx6 := Lib.hid hx6
  go_wp2_with fail
  refine (hmin.out _).mono ?_
  rintro e w2 ⟨rfl, rfl⟩
  have hLs := lay5_size hL
  generalize hxl : x.extract 0 5 = L at *
  replace hxl := Lib.hid hxl
  have hown0 : (w1.alloc (.cells #[] 5)).ownsRow w.heap.size 5 1 (.slice (some ⟨w1.heap.size, 0, none⟩) 0 0) 0 [] := by
    have := World.ownsRow_lit (w := w1) (e := 5) (base := w.heap.size) (size := 1) #[] 0 hN1 (by simp [maxLen]) (by simp)
    simpa using this
  replace hown0 := Lib.hid hown0
  have hb1 := below_a1 w1 (.cells #[] 5)
  have hs1 := hs.below hb1
  have hd2 := Lib.hid (hd1.out.below hb1 hN1)
  have hN2 := Nat.le_trans hN1 hb1.size
  have hp1 := Lib.hid (pick_any r (t + 2) 20 _ hs1 (by omega) (by omega))
  clear hb1 hs hg hs1
  go_wp2_with fail
  rw [hxl.out]
  generalize hw2 : w1.alloc (.cells #[] 5) = w2 at *
  replace hw2 := Lib.hid hw2
  refine (hp1.out).mono ?_
  rintro e w3 ⟨y, rfl, y0, y1, y2, hs3, hg3⟩
  have y1 := y1 (by omega)
  clear y2
  have hd3 := Lib.hid (hd2.out.pick hg3 hN2)
  have hN3 := Nat.le_trans hN2 hg3.size
  have hown3 := Lib.hid (owns_past hown0.out hg3 hrl)
  have hL5 : (0 : Int) < (L.size : Int) := by omega
  have hL5' : decide ((0 : Int) < (L.size : Int)) = true := decide_eq_true hL5
  have hLs' := Lib.hid hLs
  have hrl' := Lib.hid hrl
  have hrN := hrl
  clear hg3 hrl hLs h
  go_wp2
  go_loopw [8, 9] (fun v k wr => ∃ (l : List UInt8) (j : Int), k = .int .i64 j ∧ 0 ≤ j ∧ l.length + j ≤ 19 ∧ OBytes wr w.heap.size v l ∧ (∀ c ∈ l, c ∈ L.data.toList) ∧ SrcAt wr r (t + 4 + 2 * l.length) ∧ Drawn r w.heap.size w wr ∧ w.heap.size ≤ wr.heap.size) (fun _ k _ => (intOf k).toNat)
  case atStart => exact ⟨[], y, rfl, y0, by simp; omega, hown3.out, (fun c hc => by cases hc), hs3.mono (by simp), hd3.out, hN3⟩
  case round =>
    obtain ⟨l, j, rfl, j0, j1, hrow, hmem, hsr, hdr, hNr⟩ := hrel
    by_cases hj : 0 < j
    · have hjd : decide ((0 : Int) < j) = true := decide_eq_true hj
      obtain ⟨_, A2, c2, rfl⟩ := obytes_len hrow
      have hpk := Lib.hid (pick_any r (t + 4 + 2 * l.length) (L.size : Int) wr hsr (by omega) (by have := hLs'.out; omega))
      have hrow' := Lib.hid hrow
      have hmem' := Lib.hid hmem
      clear hrow hmem
      go_wp2_with fail
      refine (hpk.out).mono ?_
      rintro e w4 ⟨z, rfl, z0, z1, z2, hs4, hg4⟩
      have z1 := z1 (by have := hLs'.out; omega)
      clear z2
      obtain ⟨q, rfl⟩ : ∃ q : Nat, z = (q : Int) := ⟨z.toNat, by omega⟩
      have hqL : q < L.size := by omega
      have hmq : Hid (∀ c ∈ l ++ [L[q]'hqL], c ∈ L.data.toList) := Lib.hid fun c hc => by
        rcases List.mem_append.1 hc with hc | hc
        · exact hmem'.out c hc
        · rw [List.mem_singleton] at hc
          rw [hc]
          exact List.mem_of_getElem? (byte_of hqL)
      have hd4 := Lib.hid (hdr.pick hg4 hNr)
      have hN4 := Nat.le_trans hNr hg4.size
      have hrow4 := Lib.hid (owns_past hrow'.out hg4 hrN)
      have hs4b := hs4.below (below_a1 w4 (.cells #[.int .u8 ((L[q]'hqL).toNat : Int)] 5))
      generalize hcq : L[q]'hqL = cq at *
      have hcq' := hcq
      clear hg4 hs4
      go_wp2_with (at_builtin; refine wpList_append_own _ rfl _ _ 22 rfl w.heap.size 5 i0 _ 1 1 Try.underlying22 hi hz0 hz1 hz2 rfl (by decide) _ _ _ rfl (hrow4.out.alloc _) ⟨w4.heap.size, 0, none⟩ 1 1 [.int .u8 (cq.toNat : Int)] rfl rfl ?a1 ?b1 ?c1 ?d1 ?e1 ?_)
      case a1 =>
        intro j u hj
        match j, hj with
        | 0, hj => cases hj; exact cell_new (by simp [Addr.add]) rfl
        | j + 1, hj => simp at hj
      case b1 =>
        intro u hu
        simp only [List.mem_cons, List.not_mem_nil, or_false] at hu
        rcases hu with rfl; rfl
      case c1 => unfold maxLen; omega
      case d1 => omega
      case e1 =>
        simp
        omega
      intro v2 w5 hown5 hgr5 hnil
      have hrow5 : Hid (OBytes w5 w.heap.size v2 (l ++ [cq])) := Lib.hid (by
        show w5.ownsRow _ _ _ _ (l ++ [cq]).length ((l ++ [cq]).map byteU)
        rw [List.map_append, List.length_append]; exact hown5)
      have hd5 := Lib.hid ((hd4.out.below (below_a1 w4 _) hN4).youngO hgr5 (by simp; omega) (fun q hq => ge_own hrow4.out hq))
      have hs5 := Lib.hid (hs4b.grownO hgr5 (fun q hq => by have := ge_own hrow4.out hq; omega))
      have hN5 : w.heap.size ≤ w5.heap.size := by have := hgr5.size; simp at this; omega
      clear hown5 hgr5 hnil hs4b hcq hcq'
      go_wp2
      go_roundw
      case rel => exact ⟨l ++ [cq], j - 1, rfl, by omega, by simp; omega, hrow5.out, hmq.out, hs5.out.mono (by simp; omega), hd5.out, hN5⟩
      case measure => simp [intOf]; omega
    · have hjd : decide ((0 : Int) < j) = false := decide_eq_false hj
      obtain ⟨_, A2, c2, rfl⟩ := obytes_len hrow
      have hmem' := Lib.hid hmem
      have hlen : Hid (l.length ≤ 19) := Lib.hid (by omega)
      clear hmem
      go_wp2_with fail
      refine wp_region_held_drew (S := fun w' => OBytes w' w.heap.size (.slice A2 l.length c2) l ∧ Drawn r w.heap.size w w') (by kernel_rfl) ?_ (fun hHeld => ?_)
      · exact ⟨hrow, ⟨hdr.os, hdr.tape, hdr.output, hdr.size, hdr.block⟩⟩
      refine wpAnyH_take (i := 0) (v := ?vz0) rfl (by kernel_rfl) (by kernel_rfl) (by kernel_rfl) (fun _ _ _ h => h) (Or.inl ⟨rfl, ?yz0⟩) (by assumption) ?_
      case yz0 => (intro w hSw; (try dsimp only at hSw); go_simp; first | done | with_reducible rfl)
      simp only [List.getElem_toArray, List.getElem_cons_succ, List.getElem_cons_zero, Act.put, List.setIfInBounds_toArray, List.set_cons_zero, List.set_cons_succ]
      refine wpAnyH_take (i := 1) (v := ?vz1) rfl (by kernel_rfl) (by kernel_rfl) (by kernel_rfl) (fun _ _ _ h => h) (Or.inl ⟨rfl, ?yz1⟩) (by assumption) ?_
      case yz1 => (intro w hSw; (try dsimp only at hSw); go_simp; first | done | with_reducible rfl)
      simp only [List.getElem_toArray, List.getElem_cons_succ, List.getElem_cons_zero, Act.put, List.setIfInBounds_toArray, List.set_cons_zero, List.set_cons_succ]
      refine wpAnyH_take (i := 2) (v := ?vz2) rfl (by kernel_rfl) (by kernel_rfl) (by kernel_rfl) (fun _ _ _ h => h) (Or.inl ⟨rfl, ?yz2⟩) (by assumption) ?_
      case yz2 => (intro w' hSw; have hcv := obytes_conv hSw.1; (try dsimp only at hSw); go_simp; first | done | with_reducible rfl)
      simp only [List.getElem_toArray, List.getElem_cons_succ, List.getElem_cons_zero, Act.put, List.setIfInBounds_toArray, List.set_cons_zero, List.set_cons_succ]
      refine wpAnyH_take (i := 3) (v := ?vz3) rfl (by kernel_rfl) (by kernel_rfl) (by kernel_rfl) (fun _ _ _ h => h) (Or.inl ⟨rfl, ?yz3⟩) (by assumption) ?_
      case yz3 => (intro w hSw; (try dsimp only at hSw); go_simp; first | done | with_reducible rfl)
      simp only [List.getElem_toArray, List.getElem_cons_succ, List.getElem_cons_zero, Act.put, List.setIfInBounds_toArray, List.set_cons_zero, List.set_cons_succ]
      refine wpAnyH_take (i := 4) (v := ?vz4) rfl (by kernel_rfl) (by kernel_rfl) (by kernel_rfl) (fun _ _ _ h => h) (Or.inl ⟨rfl, ?yz4⟩) (by assumption) ?_
      case yz4 => (intro w hSw; (try dsimp only at hSw); go_simp; first | done | with_reducible rfl)
      simp only [List.getElem_toArray, List.getElem_cons_succ, List.getElem_cons_zero, Act.put, List.setIfInBounds_toArray, List.set_cons_zero, List.set_cons_succ]
      refine wpAnyH_done (by kernel_rfl) ?_ _
      have hdr' := Lib.hid hHeld.2
      go_wp2
      go_ret2
      exact ⟨L, l, rfl, hL, hlen.out, hmem'.out, hdr'.out⟩
end Go.Proofs.Ytgiphckiiapcaaa
