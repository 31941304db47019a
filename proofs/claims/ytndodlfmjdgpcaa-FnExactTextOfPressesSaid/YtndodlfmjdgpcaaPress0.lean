/- Presses as data: what the law's own helpers on lists of presses do. -/
import Derived.Test.YtndodlfmjdgpcaaProg
import Derived.Test.YtndodlfmjdgpcaaRows0
import Derived.Test.YtndodlfmjdgpcaaPressD
import Derived.WalkKit
import Derived.ProofKit
import Derived.Outline
import Derived.LoopTactic
import Derived.Deep.RegionHeld3
namespace Go.Proofs.Ytndodlfmjdgpcaa
open Go.RowKit
set_option linter.unusedVariables false
set_option linter.unusedSimpArgs false

abbrev Presses (w : World) (A : Option Addr) (n : Nat) (ps : List PressD) : Prop := SRow 2 PressD.cells w A n ps

theorem presses_at {w : World} {A : Option Addr} {n k : Nat} {ps : List PressD} (h : Presses w A n ps) (hk : k < n) :
    ∃ b off x, A = some ⟨b, off, none⟩ ∧ b < w.heap.size ∧ Hid (ps[k]? = some x) ∧ w.cell? ⟨b, off + k * 2, none⟩ = some (.int .i64 x.key) ∧ w.cell? ⟨b, off + k * 2 + 1, none⟩ = some (.bool x.shift) := by
  obtain ⟨b, off, x, e, hb, hx, hc⟩ := h.at_ hk
  exact ⟨b, off, x, e, hb, Lib.hid hx, hc 0 _ rfl, hc 1 _ rfl⟩

theorem Try.infoPress : (Try.prog.info? 53).map (fun i => (i.zero, i.size, i.bytes)) = some (some (.agg #[.int .i64 0, .bool false]), 2, 16) := by kernel_rfl

set_option maxHeartbeats 400000 in
theorem toPressS_any (A : Option Addr) (n c : Nat) (ps : List PressD) (w : World) (h : Presses w A n ps) (hn : n ≤ 1048576) :
    Calls Try.prog 48 #[.slice A n c] w fun e w' => ∃ g, e = .returned (.slice (some ⟨g, 0, none⟩) n n) ∧ w.heap.size ≤ g ∧ Presses w' (some ⟨g, 0, none⟩) n ps ∧ Below w.heap.size w w' := by
  obtain ⟨i0, hi, hz0, hz1, hz2⟩ := info_parts Try.infoPress
  have hmk := fun W => run_make_many (P := Try.prog) 43 53 i0 _ Try.underlying43 hi hz0 .i64 .i64 n (by rw [hz2]; omega) (by omega) W
  rw [hz1] at hmk
  go_enter Try.func48, Try.ntmps48
  go_wp2
  have h0 : Presses (w.alloc (.cells (madeCells #[.int .i64 0, .bool false] (n * 2)) 53)) A n ps := h.below ((Below.refl _ w).alloc (Nat.le_refl _) _)
  go_loopw [4] (fun i wr => ∃ k : Nat, k ≤ n ∧ i = .int .i64 k ∧ Below w.heap.size w wr ∧ Filled 2 PressD.cells wr w.heap.size 53 (n * 2) ps k) (fun i _ => n - (intOf i).toNat)
  case atStart => exact ⟨0, by omega, rfl, (Below.refl _ w).alloc (Nat.le_refl _) _, .start _ (made_row _ _ _ _)⟩
  case round =>
    obtain ⟨k, hk, rfl, hbw, hF⟩ := hrel
    by_cases hlt : k < n
    · obtain ⟨b, off, x, rfl, hb, hx, c0, c1⟩ := presses_at (h.below hbw) hlt
      go_wp2_with (go_at_call 92; refine (toPress_any _ _ _).mono ?_)
      rintro e w1 ⟨rfl, hb1⟩
      have hF1 := hF.below hb1 hF.lt
      obtain ⟨f, hrow1⟩ := hF1.row
      have d0 := hrow1.cell (i := k * 2) (by omega)
      have d1 := hrow1.cell (i := k * 2 + 1) (by omega)
      have e0 := hrow1.frozen (k * 2)
      have e1 := hrow1.frozen (k * 2 + 1)
      have hbw1 := hbw.trans (hb1.mono hbw.size)
      go_wp2
      go_roundw
      case rel => exact ⟨k + 1, by omega, by go_num, putRow_below (Nat.le_refl _) x.cells w1 (k * 2) hbw1, hF1.step hx.out (fun _ => rfl)⟩
      case measure => simp [intOf]; omega
    · obtain rfl : k = n := by omega
      have hres := Lib.hid (hF.done h.1 (fun _ => rfl))
      go_wp2
      go_ret
      exact ⟨_, rfl, Nat.le_refl _, hres.out, hbw⟩

theorem szPressS_any (A : Option Addr) (n c : Nat) (l : Int) (w : World) (h0 : 0 ≤ l) (h1 : l ≤ 1048576) (hn : n ≤ maxLen) :
    Calls Try.prog 47 #[.slice A n c, .int .i64 l] w fun e w' => e = .returned (.int .i64 (if l - n < 0 then -1 else l - n)) ∧ w = w' := by
  unfold maxLen at hn
  by_cases hc : l - n < 0
  · rw [if_pos hc]
    go_enter Try.func47, Try.ntmps47
    go_wp2
    go_ret
    exact ⟨rfl, rfl⟩
  · rw [if_neg hc]
    go_enter Try.func47, Try.ntmps47
    go_wp2
    go_ret
    exact ⟨rfl, rfl⟩

def eqPs : List PressD → List PressD → Bool
  | [], [] => true
  | a :: as_, b :: bs => a.eqB b && eqPs as_ bs
  | _, _ => false
theorem eqPs_refl : ∀ ps : List PressD, eqPs ps ps = true
  | [] => rfl
  | p :: ps => by simp [eqPs, PressD.eqB_iff.2 rfl, eqPs_refl ps]
theorem eqPs_iff : ∀ {ps qs : List PressD}, eqPs ps qs = true ↔ ps = qs
  | [], [] => by simp [eqPs]
  | [], _ :: _ => by simp [eqPs]
  | _ :: _, [] => by simp [eqPs]
  | a :: ps, b :: qs => by simp [eqPs, PressD.eqB_iff, eqPs_iff (ps := ps) (qs := qs)]

theorem ret_b {a b : Bool} (h : a = b) : Ending.returned (.bool a) = .returned (.bool b) := by rw [h]
theorem eqPs_step {ps qs : List PressD} {k : Nat} {x y : PressD} (hx : ps[k]? = some x) (hy : qs[k]? = some y) (h : x.eqB y = true) : eqPs (ps.drop k) (qs.drop k) = eqPs (ps.drop (k + 1)) (qs.drop (k + 1)) := by
  obtain ⟨h1, rfl⟩ := List.getElem?_eq_some_iff.1 hx
  obtain ⟨h2, rfl⟩ := List.getElem?_eq_some_iff.1 hy
  rw [List.drop_eq_getElem_cons h1, List.drop_eq_getElem_cons h2]
  simp [eqPs, h]
theorem eqPs_stop {ps qs : List PressD} {k : Nat} {x y : PressD} (hx : ps[k]? = some x) (hy : qs[k]? = some y) (h : x.eqB y = false) : eqPs (ps.drop k) (qs.drop k) = false := by
  obtain ⟨h1, rfl⟩ := List.getElem?_eq_some_iff.1 hx
  obtain ⟨h2, rfl⟩ := List.getElem?_eq_some_iff.1 hy
  rw [List.drop_eq_getElem_cons h1, List.drop_eq_getElem_cons h2]
  simp [eqPs, h]
theorem eqPs_end {ps qs : List PressD} {k : Nat} (hp : ps.length = k) (hq : qs.length = k) : eqPs (ps.drop k) (qs.drop k) = true := by
  rw [List.drop_of_length_le (by omega), List.drop_of_length_le (by omega)]
  rfl
theorem eqPs_len {ps qs : List PressD} (h : ¬ ps.length = qs.length) : eqPs ps qs = false := by
  rw [Bool.eq_false_iff]
  intro he
  exact h (by rw [eqPs_iff.1 he])

theorem kept4 {wr wx w1 : World} {b o0 o1 b' o2 o3 : Nat} {v0 v1 v2 v3 : Value} (h : Below wr.heap.size wr wx ∧ wx.cell? ⟨b, o0, none⟩ = some v0 ∧ wx.cell? ⟨b, o1, none⟩ = some v1 ∧ wx.cell? ⟨b', o2, none⟩ = some v2 ∧ wx.cell? ⟨b', o3, none⟩ = some v3)
    (hb : b < wr.heap.size) (hb' : b' < wr.heap.size) (h1 : Below wx.heap.size wx w1) :
    Below wr.heap.size wr w1 ∧ w1.cell? ⟨b, o0, none⟩ = some v0 ∧ w1.cell? ⟨b, o1, none⟩ = some v1 ∧ w1.cell? ⟨b', o2, none⟩ = some v2 ∧ w1.cell? ⟨b', o3, none⟩ = some v3 := by
  obtain ⟨hB, c0, c1, c2, c3⟩ := h
  have hz := hB.size
  exact ⟨hB.trans (h1.mono hz), (h1.cell (p := ⟨b, o0, none⟩) (by show b < _; omega)).trans c0, (h1.cell (p := ⟨b, o1, none⟩) (by show b < _; omega)).trans c1, (h1.cell (p := ⟨b', o2, none⟩) (by show b' < _; omega)).trans c2, (h1.cell (p := ⟨b', o3, none⟩) (by show b' < _; omega)).trans c3⟩

set_option maxHeartbeats 800000 in
theorem eqPressS_any (A B : Option Addr) (n m c d : Nat) (ps qs : List PressD) (w : World) (hA : Presses w A n ps) (hB : Presses w B m qs) (hn : n ≤ maxLen) (hm : m ≤ maxLen) :
    Calls Try.prog 40 #[.slice A n c, .slice B m d] w fun e w' => e = .returned (.bool (eqPs ps qs)) ∧ Below w.heap.size w w' := by
  unfold maxLen at hn hm
  by_cases hl : n = m
  · subst hl
    go_enter Try.func40, Try.ntmps40
    go_wp2
    go_loopw [5] (fun i wr => ∃ k : Nat, k ≤ n ∧ i = .int .i64 k ∧ Below w.heap.size w wr ∧ eqPs ps qs = eqPs (ps.drop k) (qs.drop k)) (fun i _ => n - (intOf i).toNat)
    case atStart => exact ⟨0, by omega, rfl, Below.refl _ _, rfl⟩
    case round =>
      obtain ⟨k, hk, rfl, hbw, he⟩ := hrel
      have he := Lib.hid he
      by_cases hlt : k < n
      · obtain ⟨b, off, x, rfl, hb, hx, c0, c1⟩ := presses_at (hA.below hbw) hlt
        obtain ⟨b', off', y, rfl, hb', hy, d0, d1⟩ := presses_at (hB.below hbw) hlt
        have hk0 : (0 : Int) ≤ (k : Int) := Int.natCast_nonneg _
        have hk1 : (k : Int) < (n : Int) := by omega
        by_cases hq : x.eqB y = true
        · have hnext := Lib.hid (eqPs_step hx.out hy.out hq)
          have HQ := Lib.hid hq
          clear hq
          go_wp2_with fail
          go_region_held3 (fun w' => Below wr.heap.size wr w' ∧ w'.cell? ⟨b, off + k * 2, none⟩ = some (.int .i64 x.key) ∧ w'.cell? ⟨b, off + k * 2 + 1, none⟩ = some (.bool x.shift) ∧ w'.cell? ⟨b', off' + k * 2, none⟩ = some (.int .i64 y.key) ∧ w'.cell? ⟨b', off' + k * 2 + 1, none⟩ = some (.bool y.shift)) (first | exact ⟨(Below.refl _ _).drew, c0, c1, d0, d1⟩ | (exact kept4 (by assumption) hb hb' hb1)) (first | (go_at_call 89; refine (eqPress_is HQ.out _).mono ?_; rintro e w1 ⟨rfl, hb1⟩))
          have hw1 : Below w.heap.size w w1 := hbw.trans (((Below.refl _ wr).drew.trans hb1).mono hbw.size)
          clear hb1 c0 c1 d0 d1
          go_wp2
          go_roundw
          case rel => exact ⟨k + 1, by omega, by go_num, hw1, he.out.trans hnext.out⟩
          case measure => simp [intOf]; omega
        · have hq' : x.eqB y = false := by simpa using hq
          have hres := Lib.hid (eqPs_stop hx.out hy.out hq')
          have HQ := Lib.hid hq'
          clear hq hq'
          go_wp2_with fail
          go_region_held3 (fun w' => Below wr.heap.size wr w' ∧ w'.cell? ⟨b, off + k * 2, none⟩ = some (.int .i64 x.key) ∧ w'.cell? ⟨b, off + k * 2 + 1, none⟩ = some (.bool x.shift) ∧ w'.cell? ⟨b', off' + k * 2, none⟩ = some (.int .i64 y.key) ∧ w'.cell? ⟨b', off' + k * 2 + 1, none⟩ = some (.bool y.shift)) (first | exact ⟨(Below.refl _ _).drew, c0, c1, d0, d1⟩ | (exact kept4 (by assumption) hb hb' hb1)) (first | (go_at_call 89; refine (eqPress_is HQ.out _).mono ?_; rintro e w1 ⟨rfl, hb1⟩))
          have hw1 : Below w.heap.size w w1 := hbw.trans (((Below.refl _ wr).drew.trans hb1).mono hbw.size)
          clear hb1 c0 c1 d0 d1
          go_wp2
          go_ret
          exact ⟨ret_b (hres.out ▸ he.out.symm), hw1⟩
      · obtain rfl : k = n := by omega
        have hres := Lib.hid (eqPs_end hA.1 hB.1)
        go_wp2
        go_ret
        exact ⟨ret_b (hres.out ▸ he.out.symm), hbw⟩
  · have hl' : ((n : Int) == (m : Int)) = false := beq_eq_false_iff_ne.2 (by omega)
    have hres := Lib.hid (eqPs_len (ps := ps) (qs := qs) (by rw [hA.1, hB.1]; exact hl))
    clear hl
    go_enter Try.func40, Try.ntmps40
    go_wp2
    go_ret
    exact ⟨ret_b hres.out.symm, Below.refl _ _⟩
end Go.Proofs.Ytndodlfmjdgpcaa
