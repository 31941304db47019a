/- slices.Concat over slices of int64: what it returns is a row of its own. -/
import Derived.Test.YtijelimpkcnbjaaTab1
import Derived.Test.YtijelimpkcnbjaaIssD
import Derived.Shelf.Spec.SlicesGrow
namespace Go.Proofs.Ytijelimpkcnbjaa
open Go.RowKit Go.ChangeShapes Go.WideShapes Go.Deep
set_option linter.unusedVariables false
set_option linter.unusedSimpArgs false

def Try.growRen : Go.Shelf.Ren := ⟨fun | 4 => 42 | n => n, fun | 0 => 0 | 3 => 3 | 4 => 4 | 9 => 9 | 20 => 20 | 22 => 26 | 25 => 2 | n => n, fun n => n⟩
theorem Try.growL : Go.Proofs.Lays8.n4 Try.prog Try.growRen := {
  mixed := by kernel_rfl
  f4 := ⟨"slices.Grow[[]int64,int64]", by decide, Try.func42.trans (congrArg some (by kernel_rfl))⟩
  t0 := Try.underlying0
  a0 := Try.isAgg0
  z0 := Try.sizeOf0
  v0 := Try.zeroValue0
  t3 := Try.underlying3
  a3 := Try.isAgg3
  z3 := Try.sizeOf3
  v3 := Try.zeroValue3
  t4 := Try.underlying4
  a4 := Try.isAgg4
  z4 := Try.sizeOf4
  v4 := Try.zeroValue4
  t9 := Try.underlying9
  a9 := Try.isAgg9
  z9 := Try.sizeOf9
  v9 := Try.zeroValue9
  t20 := Try.underlying20
  a20 := Try.isAgg20
  z20 := Try.sizeOf20
  v20 := Try.zeroValue20
  t22 := Try.underlying26
  a22 := Try.isAgg26
  z22 := Try.sizeOf26
  v22 := Try.zeroValue26 }
/-- slices.Grow of nil: a row of nothing, with room for n. -/
theorem grow8 (n : Nat) (hn : n ≤ 100000) (w : World) :
    Calls Try.prog 42 #[.slice none 0 0, .int .i64 (n : Int)] w fun e w' => ∃ v, e = .returned v ∧ w'.ownsRow w.heap.size 2 1 v 0 [] ∧ Below w.heap.size w w' := by
  obtain ⟨i0, hi, hz0, hz1, hz2⟩ := info_parts Try.infoI64
  by_cases h0 : n = 0
  · subst h0
    refine (Any8.slices_Grow_room Try.growL none 0 0 0 w (by omega) (by omega) (by omega) (by omega)).mono ?_
    rintro e w' ⟨rfl, rfl⟩
    exact ⟨_, rfl, owns_nil8 _ _ _, Below.refl _ _⟩
  · refine (Any8.slices_Grow_grow Try.growL i0 _ hi hz0 (by omega) none 0 0 n [] w (by omega) (by omega) (by rw [hz2]; omega) (by omega) (by simp) (fun _ => rfl) (fun a ha => by cases ha)).mono ?_
    rintro e w' ⟨rfl, rfl⟩
    have hge := grownCap_ge w (0 + n) 0 2
    have hle := grownCap_le_maxLen w (0 + n) 0 2 (by unfold maxLen; omega)
    refine ⟨_, rfl, ⟨rfl, .inr ⟨w.heap.size, _, _, rfl, Nat.le_refl _, heap_alloc_new _ _, Nat.zero_le _, hle, ?_, rfl⟩⟩, (Below.refl _ w).drew.alloc (Nat.le_refl _) _⟩
    simp only [Array.size_append, size_zeroCells, List.size_toArray, List.length_nil, Value.cells, Array.size_singleton]
    show 0 + (0 + n - 0) * 1 + (grownCap w (0 + n) 0 2 - (0 + n)) * 1 = grownCap w (0 + n) 0 2 * 1
    omega
theorem cap8 {w : World} {base : Nat} {e : TypeId} {size n : Nat} {A : Option Addr} {c : Nat} {xs : List Value} (h : w.ownsRow base e size (.slice A n c) n xs) : n ≤ c := by
  rcases h.2 with ⟨hv, h0⟩ | ⟨g, cap, cur, hv, hb, hg, hcap, _⟩
  · omega
  · cases hv
    exact hcap
theorem flat_take8 {xss : List (List Int)} {k : Nat} {xs : List Int} (h : xss[k]? = some xs) : (xss.take (k + 1)).flatten = (xss.take k).flatten ++ xs := by
  rw [take8 h, List.flatten_append]
  simp
theorem flat_len8 : ∀ xss : List (List Int), xss.flatten.length = tot xss
  | [] => rfl
  | xs :: r => by
    have := flat_len8 r
    simp only [List.flatten_cons, List.length_append, this]
    rfl
set_option maxRecDepth 100000 in
set_option maxHeartbeats 3200000 in
theorem concat8 (A : Option Addr) (n c : Nat) (xss : List (List Int)) (w : World) (h : IntSS w A n xss) (hn : n ≤ 3) (ht : tot xss ≤ 1000) :
    Calls Try.prog 31 #[.slice A n c] w fun e w' => ∃ A' n' c', e = .returned (.slice A' n' c') ∧ n' ≤ c' ∧ OInts w' w.heap.size A' n' xss.flatten ∧ Below w.heap.size w w' := by
  have hl := Lib.hid h.len
  have hg := Lib.hid (grow8 (tot xss) (by omega))
  have htk := Lib.hid (fun k => Nat.le_trans (tot_take_le xss k) ht)
  have htot := Lib.hid ht
  clear ht
  go_enter Try.func31, Try.ntmps31
  go_wp2
  go_loopw [3, 11] (fun s i wr => ∃ k : Nat, k ≤ n ∧ i = .int .i64 k ∧ s = .int .i64 (tot (xss.take k) : Nat) ∧ w = wr) (fun _ i _ => n - (intOf i).toNat)
  case atStart => exact ⟨0, by omega, rfl, rfl, rfl⟩
  case round =>
    obtain ⟨k, hk, rfl, rfl, rfl⟩ := hrel
    by_cases hlt : k < n
    · obtain ⟨b, off, B, m, cc, xs, rfl, hb, hx, c0, hI, hm⟩ := iss_at h hlt
      have ht1 := tot_take hx.out
      rw [hI.1] at ht1
      have ht2 := htk.out (k + 1)
      have hk0 : (0 : Int) ≤ (k : Int) := Int.natCast_nonneg _
      have hk1 : (k : Int) < (n : Int) := by omega
      rw [ht1] at ht2
      replace ht1 := Lib.hid ht1
      generalize tot (xss.take k) = y at *
      have hw1 : IntKind.i64.wrap ((y : Int) + (m : Int)) = (y : Int) + (m : Int) := IntWalk.i64_in _ (by omega)
      have hneg : ¬ ((y : Int) + (m : Int) < 0) := by omega
      go_wp2
      go_roundw
      case rel => exact ⟨k + 1, by omega, by go_num, by rw [ht1.out]; rfl, by trivial⟩
      case measure => simp [intOf]; omega
    · obtain rfl : k = n := by omega
      rw [tot_all (by rw [hl.out]; omega)]
      go_wp2_with fail
      refine (hg.out _).mono ?_
      rintro e w1 ⟨v1, rfl, hown1, hb1⟩
      replace hown1 := Lib.hid hown1
      have hb10 := Lib.hid hb1
      clear hb1 hg
      go_wp2
      go_loopw [6, 27] (fun v i wr => ∃ (q : Nat) (L : List Int), q ≤ k ∧ i = .int .i64 q ∧ L = (xss.take q).flatten ∧ wr.ownsRow w.heap.size 2 1 v L.length (L.flatMap intC) ∧ Below w.heap.size w wr) (fun _ i _ => k - (intOf i).toNat)
      case atStart => exact ⟨0, [], by omega, rfl, rfl, hown1.out, hb10.out⟩
      case round =>
        rename World => wr
        obtain ⟨q, L, hq, rfl, hL, hrow, hbw0⟩ := hrel
        replace hL := Lib.hid hL
        have hwz := hbw0.size
        by_cases hlt : q < k
        · obtain ⟨b, off, B, m, cc, xs, rfl, hb, hx, c0, hI, hm⟩ := iss_at (h.below hbw0) hlt
          have hk0 : (0 : Int) ≤ (q : Int) := Int.natCast_nonneg _
          have hk1 : (q : Int) < (k : Int) := by omega
          have hLn : L.length ≤ 1000 := by rw [hL.out, flat_len8]; exact htk.out q
          have hmn : m ≤ 1000 := by have := tot_le hx.out; rw [hI.1] at this; have := htot.out; omega
          have hsn : Hid (L ++ xs = (xss.take (q + 1)).flatten) := Lib.hid (by rw [flat_take8 hx.out, ← hL.out])
          have hlen := Lib.hid hI.1
          obtain ⟨v', w', hrun, hown', hgr⟩ := app_ints8 wr w.heap.size 26 _ L.length L hrow B m cc xs hI (by omega) hwz
          have hb1 : Below w.heap.size w w' := hbw0.grown hgr hwz (fun j hj => owns_ge8 hrow hj)
          replace hb1 := Lib.hid hb1
          replace hown' := Lib.hid hown'
          clear hgr hrow hbw0
          go_wp2_with (at_builtin; refine Lib.wpList_append_run_sl _ rfl _ _ 26 rfl _ _ rfl rfl hrun ?_)
          go_roundw
          case rel => exact ⟨q + 1, L ++ xs, by omega, by go_num, hsn.out, by rw [List.length_append, hlen.out]; exact hown'.out, hb1.out⟩
          case measure => simp [intOf]; omega
        · obtain rfl : q = k := by omega
          have hfin : Hid (L = xss.flatten) := Lib.hid (by rw [hL.out, List.take_of_length_le (by rw [hl.out]; omega)])
          obtain ⟨A', c', rfl, hO⟩ := owns_i8 rfl hrow
          have hcap := cap8 hrow
          have hO2 := Lib.hid hO
          clear hO hrow
          go_wp2
          go_ret
          exact ⟨A', L.length, c', rfl, hcap, hfin.out ▸ hO2.out, hbw0⟩
end Go.Proofs.Ytijelimpkcnbjaa
