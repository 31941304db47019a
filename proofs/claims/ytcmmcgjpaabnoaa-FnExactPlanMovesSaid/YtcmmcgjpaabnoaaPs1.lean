/- The moves of a plan, counted by the program. -/
import Derived.Test.YtcmmcgjpaabnoaaPs0
namespace Go.Proofs.Ytcmmcgjpaabnoaa
open Go.RowKit Go.ChangeShapes Go.WideShapes Go.Deep
set_option linter.unusedVariables false
set_option linter.unusedSimpArgs false

def cntS (L : List Stp) : Nat := (L.filter fun x => !x.2).length
theorem cntS_cons_t (c : UInt8) (L : List Stp) : cntS ((c, true) :: L) = cntS L := rfl
theorem cntS_cons_f (c : UInt8) (L : List Stp) : cntS ((c, false) :: L) = cntS L + 1 := rfl
theorem pm_stF : ∀ (n : Nat) (l : List UInt8), l.length ≤ n → pmF l = (stF false l).map cntS := fun n => by
  induction n using Nat.strongRecOn with
  | _ n ih =>
    intro l hl
    match l, hl with
    | [], _ => rfl
    | [m], _ =>
      rw [pmF, stF]
      by_cases h : m.toNat = 39
      · simp [h, stF]
      · by_cases h2 : mvQ m = true
        · simp [h, h2, stF, cntS]
        · simp [h, h2]
    | m :: c :: r, hl =>
      simp only [List.length_cons] at hl
      rw [pmF, stF]
      by_cases h : m.toNat = 39
      · simp only [h, if_true, Bool.false_eq_true, if_false]
        rw [stF]
        by_cases h2 : letQ c = true
        · simp only [h2, if_true]
          rw [ih (n - 1) (by omega) r (by omega)]
          cases stF false r <;> simp [cntS_cons_t]
        · simp [h2]
      · by_cases h2 : mvQ m = true
        · simp only [h, h2, if_true, Bool.false_eq_true, if_false]
          rw [ih (n - 1) (by omega) (c :: r) (by simp; omega)]
          cases stF false (c :: r) <;> simp [cntS_cons_f]
        · simp [h, h2]
theorem stp_at {w : World} {A : Option Addr} {n k : Nat} {L : List Stp} (h : SRow 2 stpC w A n L) (hk : k < n) :
    ∃ b off x, A = some ⟨b, off, none⟩ ∧ b < w.heap.size ∧ Hid (L[k]? = some x) ∧ w.cell? ⟨b, off + k * 2, none⟩ = some (.int .i32 (x.1.toNat : Int)) ∧ w.cell? ⟨b, off + k * 2 + 1, none⟩ = some (.bool x.2) := by
  obtain ⟨b, off, x, e, hb, hx, hc⟩ := h.at_ hk
  exact ⟨b, off, x, e, hb, Lib.hid hx, hc 0 _ rfl, hc 1 _ rfl⟩
theorem cnt_take {L : List Stp} {k : Nat} {x : Stp} (h : L[k]? = some x) : cntS (L.take (k + 1)) = cntS (L.take k) + (if x.2 then 0 else 1) := by
  rw [take8 h, cntS, List.filter_append, List.length_append]
  cases hx : x.2 <;> simp [cntS, hx]
theorem cnt_le (L : List Stp) : cntS L ≤ L.length := List.length_filter_le _ _
set_option maxHeartbeats 1600000 in
theorem pmW11 (s : ByteArray) (hs : s.size ≤ 1048576) (w : World) {r : Int × Int} (hr : pmR s = r) :
    Calls Try.prog 22 #[.string s] w fun e w' => e = .returned (.tuple #[.int .i64 r.1, .int .i64 r.2]) ∧ Below w.heap.size w w' := by
  have hc := Lib.hid (readPlan11 s hs w)
  replace hr := Lib.hid hr
  go_enter Try.func22, Try.ntmps22
  go_wp2_with fail
  refine hc.out.mono ?_
  rintro e w1 ⟨hb1, ⟨L, A, c, hL, hLs, hs2, rfl, hrow⟩ | ⟨hbad, v, rfl⟩⟩
  · have hLn : L.length ≤ 200 := by omega
    have hrr : Hid (r = (((cntS L : Nat) : Int), 0)) := Lib.hid (by
      rw [← hr.out, pmR, if_neg (by omega), pm_stF _ _ (Nat.le_refl _), hL]
      rfl)
    clear hL hLs hr hc
    go_wp2
    go_loopw [6, 18] (fun mv i wr => ∃ k : Nat, k ≤ L.length ∧ i = .int .i64 (k : Int) ∧ mv = .int .i64 ((cntS (L.take k) : Nat) : Int) ∧ Below w1.heap.size w1 wr) (fun _ i _ => L.length - (intOf i).toNat)
    case atStart => exact ⟨0, by omega, rfl, rfl, Below.refl _ _⟩
    case round =>
      rename World => wr
      obtain ⟨k, hk, rfl, rfl, hbw⟩ := hrel
      by_cases hlt : k < L.length
      · obtain ⟨b, off, x, rfl, hb, hx, c0, c1⟩ := stp_at (hrow.below hbw) hlt
        have hk0 : (0 : Int) ≤ (k : Int) := Int.natCast_nonneg _
        have hk1 : (k : Int) < (L.length : Int) := by omega
        have hcnt := Lib.hid (cnt_take hx.out)
        have hle := cnt_le (L.take k)
        have hle2 : cntS (L.take k) ≤ 200 := by rw [List.length_take] at hle; omega
        clear hle
        generalize cntS (L.take k) = q at *
        cases hx2 : x.2 with
        | true =>
          rw [hx2] at c1
          have hq : Hid (cntS (L.take (k + 1)) = q) := Lib.hid (by rw [hcnt.out, hx2]; simp)
          replace hx2 := Lib.hid hx2
          go_wp2
          go_roundw
          case rel => exact ⟨k + 1, by omega, by go_num, by rw [hq.out], hbw.alloc hbw.size _⟩
          case measure => simp [intOf]; omega
        | false =>
          rw [hx2] at c1
          have hq : Hid (cntS (L.take (k + 1)) = q + 1) := Lib.hid (by rw [hcnt.out, hx2]; simp)
          replace hx2 := Lib.hid hx2
          go_wp2
          go_roundw
          case rel => exact ⟨k + 1, by omega, by go_num, by rw [hq.out]; go_num, hbw.alloc hbw.size _⟩
          case measure => simp [intOf]; omega
      · obtain rfl : k = L.length := by omega
        rw [List.take_length] at *
        go_wp2
        go_ret2
        exact ⟨by rw [hrr.out]; rfl, hb1.trans (hbw.mono hb1.size)⟩
  · have hrr : Hid (r = (0, 7)) := Lib.hid (by
      rw [← hr.out, pmR]
      rcases hbad with h | h
      · rw [if_pos h]
      · rw [pm_stF _ _ (Nat.le_refl _), h]
        split <;> rfl)
    go_wp2
    go_ret2
    exact ⟨by rw [hrr.out]; rfl, hb1⟩
theorem pm11_impl (s : ByteArray) (w : World) (hs : s.size ≤ 1048576) :
    Calls Try.prog 22 #[.string s] w fun e w' => e = .returned (.tuple #[.int .i64 (pmR s).1, .int .i64 (pmR s).2]) ∧ Below w.heap.size w w' := pmW11 s hs w rfl
end Go.Proofs.Ytcmmcgjpaabnoaa
