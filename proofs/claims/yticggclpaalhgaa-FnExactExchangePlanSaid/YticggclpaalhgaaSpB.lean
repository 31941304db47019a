/- The model's valid layouts. -/
import Derived.Test.YticggclpaalhgaaSpA
import Derived.Deep.QuietTactic
import Derived.BigQuiet
namespace Go.Proofs.Yticggclpaalhgaa
open Go.RowKit Go.ChangeMaps Go.MapKept
set_option linter.unusedVariables false
set_option linter.unusedSimpArgs false

theorem ok_bad {xs : List ByteArray} {r : Nat} {s : ByteArray} (hs : xs[r]? = some s) (h : rowOk6 s = false) : layOk xs = false := by
  cases hq : layOk xs with
  | false => rfl
  | true =>
    have := ((layOk_finds.1 hq).2 r s hs).1
    rw [h] at this
    cases this
theorem ok_bad2 {xs : List ByteArray} {r c : Nat} {s : ByteArray} {x : UInt8} (hs : xs[r]? = some s) (hx : s.data.toList[c]? = some x) (h : look6 x (keysFrom 0 xs) ≠ some (r, c)) : layOk xs = false := by
  cases hq : layOk xs with
  | false => rfl
  | true => exact absurd (((layOk_finds.1 hq).2 r s hs).2 c x hx) h
/-- Row r has passed. -/
def rowPass (xs : List ByteArray) (r : Nat) : Prop := ∀ s, xs[r]? = some s → rowOk6 s = true ∧ ∀ c x, s.data.toList[c]? = some x → look6 x (keysFrom 0 xs) = some (r, c)
theorem pass_end {xs : List ByteArray} (h : ∀ r, r < xs.length → rowPass xs r) : layOk xs = isIn (xs.length : Int) 1 4 := by
  have h1 : layOk xs = true ↔ isIn (xs.length : Int) 1 4 = true := by
    rw [layOk_finds, isIn_iff]
    constructor
    · rintro ⟨⟨a, b⟩, _⟩; omega
    · rintro ⟨a, b⟩
      refine ⟨by omega, fun r s hs => ?_⟩
      have hr : r < xs.length := (List.getElem?_eq_some_iff.1 hs).1
      exact h r hr s hs
  cases ha : layOk xs with
  | true => exact (h1.1 ha).symm
  | false =>
    cases hb : isIn (xs.length : Int) 1 4 with
    | false => rfl
    | true => rw [h1.2 hb] at ha; cases ha
theorem atI_some {o : Option (Nat × Nat)} {r c : Nat} : o = some (r, c) ↔ (atI o).1 = (r : Int) ∧ (atI o).2 = (c : Int) := by
  cases o with
  | none => simp [atI]
  | some p =>
    obtain ⟨a, b⟩ := p
    simp only [atI, Option.some.injEq, Prod.mk.injEq]
    omega

set_option maxRecDepth 100000 in
set_option maxHeartbeats 1600000 in
theorem ok6_spec (R : Nat) (A : Option Addr) (n c : Nat) (xs : List ByteArray) (w : World) (hR : w.cell? ⟨R, 0, none⟩ = some (.slice A n c)) (h : Strs w A n xs) (hn : n ≤ 1048576) (hs : ∀ s ∈ xs, s.size ≤ 1048576) (v : Bool) (hv : layOk xs = v) :
    Calls Try.prog 48 #[.pointer (some ⟨R, 0, none⟩)] w fun e w' => e = .returned (.bool v) ∧ Below w.heap.size w w' := by
  have hl := Lib.hid h.1
  replace hs := Lib.hid hs
  replace hv := Lib.hid hv
  have hRl : R < w.heap.size := World.block_lt_of_cell? _ _ hR
  go_enter Try.func48, Try.ntmps48
  go_wp2
  go_loopw [3, 4, 5, 6] (fun i _ _ _ wr => ∃ r : Nat, r ≤ n ∧ i = .int .i64 r ∧ (∀ q, q < r → rowPass xs q) ∧ Below w.heap.size w wr) (fun i _ _ _ _ => n - (intOf i).toNat)
  case atStart => exact ⟨0, by omega, rfl, fun q hq => absurd hq (by omega), Below.refl _ _⟩
  case round =>
    obtain ⟨r, hr, rfl, hp, hbw⟩ := hrel
    replace hp := Lib.hid hp
    have hR1 := hbw.cell (p := ⟨R, 0, none⟩) hRl
    rw [hR] at hR1
    by_cases hlt : r < n
    · obtain ⟨b, off, s, rfl, hb, hx', c0⟩ := str_at (h.below hbw) hlt
      have hsz : s.size ≤ 1048576 := hs.out s (List.mem_of_getElem? hx'.out)
      have hr0 : (0 : Int) ≤ (r : Int) := Int.natCast_nonneg _
      have hr1 : (r : Int) < (n : Int) := by omega
      cases hrow : rowOk6 s with
      | false =>
        have hres := Lib.hid (hv.out.symm.trans (ok_bad hx'.out hrow))
        have hq := Lib.hid (fun W => row_spec s W hsz false hrow)
        clear hrow
        go_wp2_with fail
        refine (hq.out _).mono ?_
        rintro e w1 ⟨rfl, rfl⟩
        go_wp2
        go_ret
        exact ⟨ret_bo hres.out.symm, hbw⟩
      | true =>
        have hq := Lib.hid (fun W => row_spec s W hsz true hrow)
        replace hrow := Lib.hid hrow
        have hbr := Lib.hid hbw
        have hrh := h.below hbw
        replace h := Lib.hid h
        clear hrh
        go_wp2_with fail
        refine (hq.out _).mono ?_
        rintro e w1 ⟨rfl, rfl⟩
        rename World => wa
        go_wp2
        go_loopw [4, 5, 6] (fun j _ _ wq => ∃ k : Nat, k ≤ s.size ∧ j = .int .i64 k ∧ (∀ q x, q < k → s.data.toList[q]? = some x → look6 x (keysFrom 0 xs) = some (r, q)) ∧ Below w.heap.size w wq) (fun j _ _ _ => s.size - (intOf j).toNat)
        case atStart => exact ⟨0, by omega, rfl, fun q x hq => absurd hq (by omega), hbr.out⟩
        case round =>
          rename World => wq
          obtain ⟨k, hk, rfl, hall, hbq⟩ := hrel
          replace hall := Lib.hid hall
          have hR2 := hbq.cell (p := ⟨R, 0, none⟩) hRl
          rw [hR] at hR2
          obtain ⟨_, _, s', e', _, hx2, c2⟩ := str_at (h.out.below hbq) hlt
          cases e'
          obtain rfl : s' = s := by have h1 := hx2.out; rw [hx'.out] at h1; exact (Option.some.inj h1).symm
          clear hx2 hR1 c0
          by_cases hlt2 : k < s'.size
          · have hk0 : (0 : Int) ≤ (k : Int) := Int.natCast_nonneg _
            have hk1 : (k : Int) < (s'.size : Int) := by omega
            have hat := Lib.hid (bytes_at s' hlt2)
            have hcall := Lib.hid (fun W (hW : Strs W (some ⟨b, off, none⟩) n xs) => at_spec (some ⟨b, off, none⟩) n c xs (s'[k]'hlt2) W hW hn hs.out _ rfl)
            have hSq := Lib.hid (h.out.below hbq)
            by_cases hfound : look6 (s'[k]'hlt2) (keysFrom 0 xs) = some (r, k)
            · have hnx : Hid (∀ q x, q < k + 1 → s'.data.toList[q]? = some x → look6 x (keysFrom 0 xs) = some (r, q)) := Lib.hid fun q x hq hx => by
                rcases Nat.lt_or_ge q k with h' | h'
                · exact hall.out q x h' hx
                · obtain rfl : q = k := by omega
                  rw [hat.out] at hx
                  cases hx
                  exact hfound
              rw [hfound] at hcall
              simp only [atI] at hcall
              clear hfound hat
              go_wp2_with fail
              go_quiet ((go_at_call 57; refine quiet_l (hcall.out _ ?_); exact hSq.out.drewN _))
              go_wp2
              go_roundw
              case rel => exact ⟨k + 1, by omega, by go_num, hnx.out, below_drewN hbq _⟩
              case measure => simp [intOf]; omega
            · have hres := Lib.hid (hv.out.symm.trans (ok_bad2 hx'.out hat.out hfound))
              rw [atI_some] at hfound
              generalize hat2 : atI (look6 (s'[k]'hlt2) (keysFrom 0 xs)) = p at *
              obtain ⟨p1, p2⟩ := p
              simp only at hcall hfound
              have hg : (if ((p1 != (r : Int)) = true) then true else (p2 != (k : Int))) = true := by
                by_cases h1 : p1 = (r : Int)
                · have h2 : ¬ p2 = (k : Int) := fun h2 => hfound ⟨h1, h2⟩
                  simp [h1, h2]
                · simp [h1]
              by_cases h1 : p1 = (r : Int)
              · have h2 : ¬ p2 = (k : Int) := fun h2 => hfound ⟨h1, h2⟩
                have g1 : (p1 == (r : Int)) = true := by simp [h1]
                have g2 : (p2 == (k : Int)) = false := by simp [h2]
                have g1' : (p1 != (r : Int)) = false := by simp [h1]
                have g2' : (p2 != (k : Int)) = true := by simp [h2]
                clear h1 h2 hfound hat hat2 hg
                go_wp2_with fail
                go_quiet ((go_at_call 57; refine quiet_l (hcall.out _ ?_); exact hSq.out.drewN _))
                go_wp2
                go_ret
                exact ⟨ret_bo hres.out.symm, below_drewN hbq _⟩
              · have g1 : (p1 == (r : Int)) = false := by simp [h1]
                have g1' : (p1 != (r : Int)) = true := by simp [h1]
                clear h1 hfound hat hat2 hg
                go_wp2_with fail
                go_quiet ((go_at_call 57; refine quiet_l (hcall.out _ ?_); exact hSq.out.drewN _))
                go_wp2
                go_ret
                exact ⟨ret_bo hres.out.symm, below_drewN hbq _⟩
          · obtain rfl : k = s'.size := by omega
            have hnx : Hid (∀ q, q < r + 1 → rowPass xs q) := Lib.hid fun q hq => by
              rcases Nat.lt_or_ge q r with h' | h'
              · exact hp.out q h'
              · obtain rfl : q = r := by omega
                intro t ht
                rw [hx'.out] at ht
                cases ht
                exact ⟨hrow.out, fun c x hc => hall.out c x (by rw [← size_len]; exact (List.getElem?_eq_some_iff.1 hc).1) hc⟩
            go_wp2
            go_roundw
            case rel => exact ⟨r + 1, by omega, by go_num, hnx.out, hbq⟩
            case measure => simp [intOf]; omega
    · obtain rfl : r = n := by omega
      have hin : isIn (r : Int) 1 4 = v := by
        rw [← hv.out, pass_end (fun q hq => hp.out q (by rw [← hl.out]; exact hq)), hl.out]
      have hq := Lib.hid (fun W => in_spec hin W)
      clear hin
      go_wp2_with fail
      refine (hq.out _).mono ?_
      rintro e w1 ⟨rfl, rfl⟩
      go_wp2
      go_ret
      exact ⟨rfl, hbw⟩
theorem valid_spec (A : Option Addr) (n c : Nat) (xs : List ByteArray) (w : World) (h : Strs w A n xs) (hn : n ≤ 1048576) (hs : ∀ x ∈ xs, x.size ≤ 1048576) :
    Calls Try.prog 15 #[.agg #[.slice A n c]] w fun e w' => e = .returned (.bool (layOk xs)) ∧ Below w.heap.size w w' := by
  have hb0 := Lib.hid (below_a1 w (.cells #[.slice A n c] 27))
  have hS := h.below hb0.out
  have hq := Lib.hid (ok6_spec w.heap.size A n c xs _ (cell_new rfl rfl) hS hn hs _ rfl)
  go_enter Try.func15, Try.ntmps15
  go_wp2_with fail
  refine hq.out.mono ?_
  rintro e w1 ⟨rfl, hb1⟩
  have hbw := Lib.hid (hb0.out.step hb1)
  go_wp2
  go_ret
  exact ⟨rfl, hbw.out⟩
end Go.Proofs.Yticggclpaalhgaa
