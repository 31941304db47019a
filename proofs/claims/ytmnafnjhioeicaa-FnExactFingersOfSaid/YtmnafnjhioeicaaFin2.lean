/- Boards: the model's functions: the code of a board, a layout and a text; the costs of the strokes; what is told of a text. -/
import Derived.Test.YtmnafnjhioeicaaFin1
import Derived.OwnWalk
namespace Go.Proofs.Ytmnafnjhioeicaa
open Go.RowKit Go.ChangeShapes Go.WideShapes Go.Deep
set_option linter.unusedVariables false
set_option linter.unusedSimpArgs false

theorem u8_eq {a b : UInt8} (h : a = b) : ((a.toNat : Int) == (b.toNat : Int)) = true ∧ (a.toNat == b.toNat) = true := by subst h; simp
theorem u8_ne {a b : UInt8} (h : a ≠ b) : ((a.toNat : Int) == (b.toNat : Int)) = false ∧ (a.toNat == b.toNat) = false := by
  have : a.toNat ≠ b.toNat := fun hh => h (UInt8.toNat_inj.1 hh)
  exact ⟨beq_eq_false_iff_ne.2 (by omega), beq_eq_false_iff_ne.2 this⟩
theorem idx_spec (s : ByteArray) (c : UInt8) (w : World) (hs : s.size ≤ 1048576) :
    Calls Try.prog 54 #[.string s, .int .u8 (c.toNat : Int)] w fun e w' => e = .returned (.int .i64 (Lib.indexByte s.data.toList c)) ∧ w = w' := by
  go_enter Try.func54, Try.ntmps54
  go_wp2
  go_loop [5] (fun i => ∃ k : Nat, k ≤ s.size ∧ i = .int .i64 k ∧ ∀ j : Nat, j < k → s.data.toList[j]? ≠ some c) (fun i => s.size - (intOf i).toNat)
  case atStart => exact ⟨0, by omega, rfl, fun j hj => absurd hj (by omega)⟩
  case round =>
    obtain ⟨k, hk, rfl, hall⟩ := hrel
    replace hall := Lib.hid hall
    by_cases hlt : k < s.size
    · have hby := Lib.hid (byte_of hlt)
      by_cases hc : s[k]'hlt = c
      · have hr : Hid (Lib.indexByte s.data.toList c = k) := Lib.hid (idx_first (by rw [hby.out, hc]) hall.out)
        obtain ⟨e1, e2⟩ := u8_eq hc
        clear hc
        go_wp2
        go_ret
        exact ⟨by rw [hr.out]; rfl, rfl⟩
      · have hnext : Hid (∀ j : Nat, j < k + 1 → s.data.toList[j]? ≠ some c) := Lib.hid fun j hj => by
          rcases Nat.lt_or_ge j k with h' | h'
          · exact hall.out j h'
          · obtain rfl : j = k := by omega
            rw [hby.out]
            exact fun h => hc (Option.some.inj h)
        obtain ⟨e1, e2⟩ := u8_ne hc
        clear hc
        go_wp2
        go_round
        case rel => exact ⟨k + 1, by omega, by go_num, hnext.out⟩
        case measure => simp [intOf]; omega
    · have hr : Hid (Lib.indexByte s.data.toList c = -1) := Lib.hid (idx_none fun j => by
        rcases Nat.lt_or_ge j k with h' | h'
        · exact hall.out j h'
        · rw [List.getElem?_eq_none (by show s.size ≤ j; omega)]
          simp)
      go_wp2
      go_ret
      exact ⟨by rw [hr.out]; rfl, rfl⟩

theorem lay7_spec (s : ByteArray) (n : Nat) {v : Bool} (hv : layB n s = v) (w : World) (hs : s.size ≤ 1048576) (hn : n ≤ 1048576) :
    Calls Try.prog 62 #[.string s, .int .i64 n] w fun e w' => e = .returned (.bool v) ∧ w = w' := by
  replace hv := Lib.hid hv
  go_enter Try.func62, Try.ntmps62
  go_wp2
  go_loopw [5] (fun i wr => ∃ k : Nat, k ≤ s.size ∧ i = .int .i64 k ∧ w = wr ∧ ∀ j : Nat, j < k → dupAt s.data.toList j = false) (fun i _ => s.size - (intOf i).toNat)
  case atStart => exact ⟨0, by omega, rfl, rfl, fun j hj => absurd hj (by omega)⟩
  case round =>
    obtain ⟨k, hk, rfl, rfl, hall⟩ := hrel
    replace hall := Lib.hid hall
    by_cases hlt : k < s.size
    · have hby := Lib.hid (byte_of hlt)
      have hcall := Lib.hid (idx_spec s (s[k]'hlt) w hs)
      cases hd : dupAt s.data.toList k with
      | true =>
        have hr : Hid (v = false) := Lib.hid (by rw [← hv.out, layB, distB_no (i := k) hlt hd]; simp)
        have hne : Lib.indexByte s.data.toList (s[k]'hlt) ≠ (k : Int) := fun h => by
          rw [(dupAt_idx hby.out).2 h] at hd
          cases hd
        generalize Lib.indexByte s.data.toList (s[k]'hlt) = X at *
        have e1 : (X == (k : Int)) = false := beq_eq_false_iff_ne.2 hne
        clear hd hne
        go_wp2_with fail
        refine (hcall.out).mono ?_
        rintro e w1 ⟨rfl, rfl⟩
        go_wp2
        go_ret
        exact ⟨by rw [hr.out]; rfl, rfl⟩
      | false =>
        have heq : Lib.indexByte s.data.toList (s[k]'hlt) = (k : Int) := (dupAt_idx hby.out).1 hd
        rw [heq] at hcall
        have hnext : Hid (∀ j : Nat, j < k + 1 → dupAt s.data.toList j = false) := Lib.hid fun j hj => by
          rcases Nat.lt_or_ge j k with h' | h'
          · exact hall.out j h'
          · obtain rfl : j = k := by omega
            exact hd
        clear hd heq
        go_wp2_with fail
        refine (hcall.out).mono ?_
        rintro e w1 ⟨rfl, rfl⟩
        go_wp2
        go_roundw
        case rel => exact ⟨k + 1, by omega, by go_num, by trivial, hnext.out⟩
        case measure => simp [intOf]; omega
    · have hd : distB s.data.toList = true := distB_yes fun i hi => hall.out i (by have h9 : i < s.size := hi; omega)
      obtain rfl : k = s.size := by omega
      by_cases hsn : s.size = n
      · have g0 : ((s.size : Int) == (n : Int)) = true := beq_iff_eq.2 (by omega)
        have hr : Hid (v = (decide ((s.size : Int) ≤ 6) && bytesIn 32 126 s)) := Lib.hid (by rw [← hv.out, layB, decide_eq_true hsn, hd]; simp)
        have ht := Lib.hid (fun W => text_spec s 6 v hr.out.symm W (by unfold maxLen; omega))
        clear hd hsn
        go_wp2_with fail
        refine (ht.out _).mono ?_
        rintro e w1 ⟨rfl, rfl⟩
        go_wp2
        go_ret
        exact ⟨rfl, rfl⟩
      · have g0 : ((s.size : Int) == (n : Int)) = false := beq_eq_false_iff_ne.2 (by omega)
        have hr : Hid (v = false) := Lib.hid (by rw [← hv.out, layB, decide_eq_false hsn]; simp)
        clear hd hsn
        go_wp2
        go_ret
        exact ⟨by rw [hr.out]; rfl, rfl⟩

set_option maxHeartbeats 1600000 in
theorem code7_spec (A : Option Addr) (n c : Nat) (ps : List PlaceD) (s t : ByteArray) (w : World) (h : Places w A n ps) (hn : n ≤ 1048576) (hs : s.size ≤ 1048576) (ht : t.size ≤ 1048576) {v : Int} (hv : finCode ps s t = v) :
    Calls Try.prog 48 #[.slice A n c, .string s, .string t] w fun e w' => e = .returned (.int .i64 v) ∧ Below w.heap.size w w' := by
  have hl := h.1
  cases h1 : boardOk ps with
  | false =>
    have hr : Hid (v = 1) := Lib.hid (by rw [← hv, finCode, h1]; rfl)
    have hq := Lib.hid (ok7_spec A n c ps w h hn h1)
    clear hv h1 hl
    go_enter Try.func48, Try.ntmps48
    go_wp2_with fail
    refine hq.out.mono ?_
    rintro e w1 ⟨rfl, hb1⟩
    go_wp2
    go_ret
    exact ⟨by rw [hr.out]; rfl, hb1⟩
  | true =>
    have hr0 : Hid (v = if (textB s t && (layB n s && decide (t.size ≤ 400))) = true then 0 else 2) := Lib.hid (by rw [← hv, finCode, if_pos h1, hl])
    have hq := Lib.hid (ok7_spec A n c ps w h hn h1)
    clear hv h1 hl
    go_enter Try.func48, Try.ntmps48
    go_wp2_with fail
    refine hq.out.mono ?_
    rintro e w1 ⟨rfl, hb1⟩
    replace hb1 := Lib.hid hb1
    clear h hq
    go_wp2
    go_loopw [7] (fun i wr => ∃ k : Nat, k ≤ t.size ∧ i = .int .i64 k ∧ w1 = wr ∧ textB s t = (t.data.toList.drop k).all (hasL s)) (fun i _ => t.size - (intOf i).toNat)
    case atStart => exact ⟨0, by omega, rfl, rfl, rfl⟩
    case round =>
      obtain ⟨k, hk, rfl, rfl, he⟩ := hrel
      replace he := Lib.hid he
      by_cases hlt : k < t.size
      · have hst := Lib.hid (all_drop (p := hasL s) (byte_of hlt))
        have hcall := Lib.hid (idx_spec s (t[k]'hlt) w1 hs)
        cases hh : hasL s (t[k]'hlt) with
        | false =>
          have hr : Hid (v = 2) := Lib.hid (by rw [hr0.out, he.out, hst.out, hh]; rfl)
          have hneg : decide (Lib.indexByte s.data.toList (t[k]'hlt) < 0) = true := by
            simp only [hasL, decide_eq_false_iff_not] at hh
            exact decide_eq_true (by omega)
          generalize Lib.indexByte s.data.toList (t[k]'hlt) = X at *
          clear hh
          go_wp2_with fail
          refine (hcall.out).mono ?_
          rintro e w1 ⟨rfl, rfl⟩
          go_wp2
          go_ret
          exact ⟨by rw [hr.out]; rfl, hb1.out⟩
        | true =>
          have hnext : Hid (textB s t = (t.data.toList.drop (k + 1)).all (hasL s)) := Lib.hid (by rw [he.out, hst.out, hh]; rfl)
          have hneg : decide (Lib.indexByte s.data.toList (t[k]'hlt) < 0) = false := by
            simp only [hasL, decide_eq_true_eq] at hh
            exact decide_eq_false (by omega)
          generalize Lib.indexByte s.data.toList (t[k]'hlt) = X at *
          clear hh
          go_wp2_with fail
          refine (hcall.out).mono ?_
          rintro e w1 ⟨rfl, rfl⟩
          go_wp2
          go_roundw
          case rel => exact ⟨k + 1, by omega, by go_num, by trivial, hnext.out⟩
          case measure => simp [intOf]; omega
      · obtain rfl : k = t.size := by omega
        have hT : textB s t = true := by rw [he.out]; exact all_end (Nat.le_refl _)
        cases h2 : layB n s with
        | false =>
          have hr : Hid (v = 2) := Lib.hid (by rw [hr0.out, hT, h2]; rfl)
          have hc2 := Lib.hid (fun W => lay7_spec s n h2 W hs hn)
          clear hT h2
          go_wp2_with fail
          refine (hc2.out _).mono ?_
          rintro e w1 ⟨rfl, rfl⟩
          go_wp2
          go_ret
          exact ⟨by rw [hr.out]; rfl, hb1.out⟩
        | true =>
          have hc2 := Lib.hid (fun W => lay7_spec s n h2 W hs hn)
          by_cases h4 : t.size ≤ 400
          · have hr : Hid (v = 0) := Lib.hid (by rw [hr0.out, hT, h2, decide_eq_true h4]; rfl)
            have g4 : decide ((400 : Int) < (t.size : Int)) = false := decide_eq_false (by omega)
            clear hT h2 h4
            go_wp2_with fail
            refine (hc2.out _).mono ?_
            rintro e w1 ⟨rfl, rfl⟩
            go_wp2
            go_ret
            exact ⟨by rw [hr.out]; rfl, hb1.out⟩
          · have hr : Hid (v = 2) := Lib.hid (by rw [hr0.out, hT, h2, decide_eq_false h4]; rfl)
            have g4 : decide ((400 : Int) < (t.size : Int)) = true := decide_eq_true (by omega)
            clear hT h2 h4
            go_wp2_with fail
            refine (hc2.out _).mono ?_
            rintro e w1 ⟨rfl, rfl⟩
            go_wp2
            go_ret
            exact ⟨by rw [hr.out]; rfl, hb1.out⟩
end Go.Proofs.Ytmnafnjhioeicaa
