/- LayoutFault: the model's function. -/
import Derived.Test.YticggclpaalhgaaDoorFlA
import Derived.Deep.QuietTactic
import Derived.BigQuiet
namespace Go.Proofs.YticggclpaalhgaaDoor
open Go.RowKit Go.ChangeMaps Go.MapKept
set_option linter.unusedVariables false
set_option linter.unusedSimpArgs false

set_option maxRecDepth 100000 in
set_option maxHeartbeats 1600000 in
theorem fault6_spec (s : ByteArray) (w : World) (hs : s.size ≤ 1048576) :
    Calls Tryd.prog 9 #[.string s] w fun e w' => e = .returned (.tuple #[.int .i64 (faultI s).1, .int .i64 (faultI s).2]) ∧ Below w.heap.size w w' := by
  unfold faultI
  generalize hF : textFault rd0 0 s.data.toList = F
  replace hF := Lib.hid hF.symm
  go_enter Tryd.func9, Tryd.ntmps9
  go_wp2
  go_loopw [4, 5, 6, 7] (fun rows long i _ wr => ∃ (k : Nat) (rk : Rd), k ≤ s.size ∧ i = .int .i64 k ∧ rows = .int .i64 ((rk.row : Int) + 1) ∧ long = .int .i64 (rk.col : Int) ∧ F = textFault rk k (s.data.toList.drop k) ∧ seenBy rk (s.data.toList.take k) ∧ rk.col ≤ 12 ∧ rk.row ≤ 3 ∧ Below w.heap.size w wr) (fun _ _ i _ _ => s.size - (intOf i).toNat)
  case atStart => exact ⟨0, rd0, by omega, rfl, rfl, rfl, hF.out, by intro b _; simp [rd0, look6], by simp [rd0], by simp [rd0], Below.refl _ _⟩
  case round =>
    obtain ⟨k, rk, hk, rfl, rfl, rfl, he, hseen, hc, hrow, hbw⟩ := hrel
    replace he := Lib.hid he
    replace hseen := Lib.hid hseen
    clear hF
    by_cases hlt : k < s.size
    · have hd := Lib.hid (bytes_drop s hlt)
      rw [hd.out] at he
      have htk := Lib.hid (take_byte s hlt)
      have hk0 : (0 : Int) ≤ (k : Int) := Int.natCast_nonneg _
      have hk1 : (k : Int) < (s.size : Int) := by omega
      by_cases h47 : (s[k]'hlt).toNat = 47
      · have g : (((s[k]'hlt).toNat : Int) == 47) = true := by rw [h47]; rfl
        have e1 : rk.byte (s[k]'hlt) = rk.brk := by simp [Rd.byte, h47]
        have e2 : rk.putByte (s[k]'hlt) = rk.next := by simp [Rd.putByte, h47]
        by_cases h0 : rk.col = 0
        · have hres : Hid (F = (1, k)) := Lib.hid (by
            have hb : rk.brk = 1 := by simp [Rd.brk, h0]
            rw [he.out, textFault_stop (by rw [e1, hb]; decide), e1, hb])
          have g0 : ((rk.col : Int) == 0) = true := by rw [h0]; rfl
          clear h0 h47 e1 e2 he hd htk
          go_wp2
          go_ret2
          exact ⟨ret_f hres.out, hbw⟩
        · have g0 : ((rk.col : Int) == 0) = false := beq_eq_false_iff_ne.2 (by omega)
          by_cases h3 : rk.row = 3
          · have hres : Hid (F = (1, k)) := Lib.hid (by
              have hb : rk.brk = 1 := by simp [Rd.brk, h3]
              rw [he.out, textFault_stop (by rw [e1, hb]; decide), e1, hb])
            have g3 : decide ((4 : Int) < (rk.row : Int) + 1 + 1) = true := decide_eq_true (by omega)
            have hs1 : IntKind.i64.wrap ((rk.row : Int) + 1 + 1) = (rk.row : Int) + 1 + 1 := IntWalk.i64_in _ (by omega)
            clear h0 h3 h47 e1 e2 he hd htk
            go_wp2
            go_ret2
            exact ⟨ret_f hres.out, hbw⟩
          · have hb : rk.brk = 0 := by simp [Rd.brk, h3, h0]
            have hnx : Hid (F = textFault rk.next (k + 1) (s.data.toList.drop (k + 1))) := Lib.hid (by rw [he.out, textFault_step (by rw [e1, hb]), e2])
            have hse : Hid (seenBy rk.next (s.data.toList.take (k + 1))) := Lib.hid (by rw [htk.out]; exact seen_break hseen.out h47)
            have g3 : decide ((4 : Int) < (rk.row : Int) + 1 + 1) = false := decide_eq_false (by omega)
            have hs1 : IntKind.i64.wrap ((rk.row : Int) + 1 + 1) = (rk.row : Int) + 1 + 1 := IntWalk.i64_in _ (by omega)
            have hr3 : rk.row + 1 ≤ 3 := by omega
            clear h0 h3 h47 e1 e2 he hd htk hb
            go_wp2
            go_roundw
            case rel => exact ⟨k + 1, rk.next, by omega, by go_num, by simp [Rd.next], by simp [Rd.next], hnx.out, hse.out, by simp [Rd.next], hr3, hbw⟩
            case measure => simp [intOf]; omega
      · have g : (((s[k]'hlt).toNat : Int) == 47) = false := beq_eq_false_iff_ne.2 (by omega)
        have e1 : rk.byte (s[k]'hlt) = rk.letter (s[k]'hlt) := by simp [Rd.byte, h47]
        have e2 : rk.putByte (s[k]'hlt) = rk.put (s[k]'hlt) := by simp [Rd.putByte, h47]
        obtain ⟨l2, l34⟩ := letter_is hseen.out h47
        have hsl := fun W => run_slice_string (P := Tryd.prog) W 9 s .i64 .i64 (k : Int) ((k : Int) + 1) Tryd.underlying9 (by omega) (by omega) (by omega)
        rw [show (k : Int).toNat = k from rfl, show ((k : Int) + 1).toNat = k + 1 from rfl, ext_one6 hlt] at hsl
        cases h1 : isLet ⟨#[s[k]'hlt]⟩ with
        | false =>
          have hq := Lib.hid (fun W => letter_spec ⟨#[s[k]'hlt]⟩ false h1 W (by show 1 ≤ maxLen; unfold maxLen; omega))
          have hres : Hid (F = (2, k)) := Lib.hid (by rw [he.out, textFault_stop (by rw [e1, l2 h1]; decide), e1, l2 h1])
          clear l2 l34 e1 e2 he hd htk h1 h47
          go_wp2_with fail
          refine (hq.out _).mono ?_
          rintro e w1 ⟨rfl, rfl⟩
          go_wp2
          go_ret2
          exact ⟨ret_f hres.out, hbw⟩
        | true =>
          have hq := Lib.hid (fun W => letter_spec ⟨#[s[k]'hlt]⟩ true h1 W (by show 1 ≤ maxLen; unfold maxLen; omega))
          obtain ⟨l3, l4⟩ := l34 h1
          replace l3 := Lib.hid l3
          replace l4 := Lib.hid l4
          replace e1 := Lib.hid e1
          replace e2 := Lib.hid e2
          replace h47 := Lib.hid h47
          clear l2 h1
          go_wp2_with fail
          refine (hq.out _).mono ?_
          rintro e w1 ⟨rfl, rfl⟩
          rename World => wa
          go_wp2
          go_loopw [7] (fun j wq => ∃ q : Nat, q ≤ k ∧ j = .int .i64 q ∧ (∀ i (hi : i < s.size), i < q → ¬ s[i]'hi = s[k]'hlt) ∧ Below w.heap.size w wq) (fun j _ => k - (intOf j).toNat)
          case atStart => exact ⟨0, by omega, rfl, fun i hi h => absurd h (by omega), hbw⟩
          case round =>
            rename World => wq
            obtain ⟨q, hq2, rfl, hall, hbq⟩ := hrel
            replace hall := Lib.hid hall
            by_cases hlt2 : q < k
            · have hqs : q < s.size := by omega
              have hq0 : (0 : Int) ≤ (q : Int) := Int.natCast_nonneg _
              have hq1 : (q : Int) < (s.size : Int) := by omega
              by_cases heq : s[q]'hqs = s[k]'hlt
              · have hres : Hid (F = (3, k)) := Lib.hid (by
                  have h3 := l3.out ((mem_take hk).2 ⟨q, hqs, hlt2, heq⟩)
                  rw [he.out, textFault_stop (by rw [e1.out, h3]; decide), e1.out, h3])
                have ge : (((s[q]'hqs).toNat : Int) == ((s[k]'hlt).toNat : Int)) = true := by rw [heq]; exact beq_self_eq_true _
                clear heq he hd htk l3 l4
                go_wp2_with fail
                go_quiet (fail)
                go_wp2
                go_ret2
                exact ⟨ret_f hres.out, below_drewN hbq _⟩
              · have hnx : Hid (∀ i (hi : i < s.size), i < q + 1 → ¬ s[i]'hi = s[k]'hlt) := Lib.hid fun i hi h => by
                  rcases Nat.lt_or_ge i q with h' | h'
                  · exact hall.out i hi h'
                  · obtain rfl : i = q := by omega
                    exact heq
                have ge : (((s[q]'hqs).toNat : Int) == ((s[k]'hlt).toNat : Int)) = false := beq_eq_false_iff_ne.2 (fun e => heq (UInt8.toNat_inj.1 (by omega)))
                clear heq
                go_wp2_with fail
                go_quiet (fail)
                go_wp2
                go_roundw
                case rel => exact ⟨q + 1, by omega, by go_num, hnx.out, below_drewN hbq _⟩
                case measure => simp [intOf]; omega
            · obtain rfl : q = k := by omega
              have hnot : s[q]'hlt ∉ s.data.toList.take q := fun hm => by
                obtain ⟨j, hj, h5, h6⟩ := (mem_take hk).1 hm
                exact hall.out j hj h5 h6
              obtain ⟨m1, m2⟩ := l4.out hnot
              clear hnot
              by_cases h12 : rk.col = 12
              · have hres : Hid (F = (4, q)) := Lib.hid (by rw [he.out, textFault_stop (by rw [e1.out, m1 h12]; decide), e1.out, m1 h12])
                have g12 : decide ((12 : Int) < (rk.col : Int) + 1) = true := decide_eq_true (by omega)
                clear he hd htk l3 l4 m1 m2 h12
                go_wp2
                go_ret2
                exact ⟨ret_f hres.out, hbq⟩
              · have hnx : Hid (F = textFault (rk.put (s[q]'hlt)) (q + 1) (s.data.toList.drop (q + 1))) := Lib.hid (by rw [he.out, textFault_step (by rw [e1.out, m2 h12]), e2.out])
                have hse : Hid (seenBy (rk.put (s[q]'hlt)) (s.data.toList.take (q + 1))) := Lib.hid (by rw [htk.out]; exact seen_put hseen.out)
                have g12 : decide ((12 : Int) < (rk.col : Int) + 1) = false := decide_eq_false (by omega)
                have hc12 : rk.col + 1 ≤ 12 := by omega
                clear he hd htk l3 l4 m1 m2 h12
                go_wp2
                go_roundw
                case rel => exact ⟨q + 1, rk.put (s[q]'hlt), by omega, by go_num, by simp [Rd.put], by simp [Rd.put], hnx.out, hse.out, hc12, hrow, hbq⟩
                case measure => simp [intOf]; omega
    · obtain rfl : k = s.size := by omega
      have hfin : Hid (F = if rk.stop = 0 then (0, 0) else (rk.stop, s.size)) := Lib.hid (by
        rw [he.out, List.drop_of_length_le (by rw [size_len]; exact Nat.le_refl _)]
        rfl)
      clear he
      by_cases h0 : rk.col = 0
      · have hst : rk.stop = 1 := by simp [Rd.stop, h0]
        have hres : Hid (F = (1, s.size)) := Lib.hid (by rw [hfin.out, hst]; rfl)
        have g0 : ((rk.col : Int) == 0) = true := by rw [h0]; rfl
        clear hfin h0 hst
        go_wp2
        go_ret2
        exact ⟨ret_f hres.out, hbw⟩
      · have hst : rk.stop = 0 := by simp [Rd.stop, h0]
        have hres : Hid (F = (0, 0)) := Lib.hid (by rw [hfin.out, hst]; rfl)
        have g0 : ((rk.col : Int) == 0) = false := beq_eq_false_iff_ne.2 (by omega)
        clear hfin h0 hst
        go_wp2
        go_ret2
        exact ⟨ret_f hres.out, hbw⟩
end Go.Proofs.YticggclpaalhgaaDoor
