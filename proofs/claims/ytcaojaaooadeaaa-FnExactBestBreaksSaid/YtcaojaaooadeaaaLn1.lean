/- Lines of words: the model's functions: words that are valid, lengths of lines, first breaks. -/
import Derived.Test.YtcaojaaooadeaaaLn0
import Derived.Test.YtcaojaaooadeaaaLayD
namespace Go.Proofs.Ytcaojaaooadeaaa
open Go.RowKit Go.ChangeShapes Go.WideShapes Go.Deep
set_option linter.unusedVariables false
set_option linter.unusedSimpArgs false

theorem word9_spec (s : ByteArray) (most : Int) {v : Bool} (hv : wordB most s = v) (w : World) (hs : s.size ≤ maxLen) :
    Calls Try.prog 56 #[.string s, .int .i64 most] w fun e w' => e = .returned (.bool v) ∧ w = w' := by
  unfold maxLen at hs
  have hno : Hid (∀ k (hk : k < s.size), ¬ (33 ≤ (s[k]'hk).toNat ∧ (s[k]'hk).toNat ≤ 126) → v = false) := Lib.hid fun k hk h => by rw [← hv, wordB, bytesIn_no hk h, Bool.false_and]
  have hyes : Hid ((∀ k (hk : k < s.size), 33 ≤ (s[k]'hk).toNat ∧ (s[k]'hk).toNat ≤ 126) → v = inR (s.size : Int) 1 most) := Lib.hid fun h => by rw [← hv, wordB, bytesIn_yes h, Bool.true_and]
  have hin := Lib.hid (fun W => in8_spec (n := (s.size : Int)) (lo := 1) (hi := most) rfl W)
  clear hv
  go_enter Try.func56, Try.ntmps56
  go_wp2
  go_loop [5] (fun i => ∃ k : Nat, k ≤ s.size ∧ i = .int .i64 k ∧ ∀ j (hj : j < s.size), j < k → 33 ≤ (s[j]'hj).toNat ∧ (s[j]'hj).toNat ≤ 126) (fun i => s.size - (intOf i).toNat)
  case atStart => exact ⟨0, by omega, rfl, fun j hj h => absurd h (by omega)⟩
  case round =>
    obtain ⟨k, hk, rfl, hall⟩ := hrel
    replace hall := Lib.hid hall
    by_cases hlt : k < s.size
    · by_cases h1 : 33 ≤ (s[k]'hlt).toNat
      · have g1 : decide ((s[k]'hlt).toNat < 33) = false := decide_eq_false (by omega)
        have g1' : decide (((s[k]'hlt).toNat : Int) < 33) = false := decide_eq_false (by omega)
        by_cases h2 : (s[k]'hlt).toNat ≤ 126
        · have g2 : decide (126 < (s[k]'hlt).toNat) = false := decide_eq_false (by omega)
          have g2' : decide ((126 : Int) < ((s[k]'hlt).toNat : Int)) = false := decide_eq_false (by omega)
          have hnext : Hid (∀ j (hj : j < s.size), j < k + 1 → 33 ≤ (s[j]'hj).toNat ∧ (s[j]'hj).toNat ≤ 126) := Lib.hid fun j hj h => by
            rcases Nat.lt_or_ge j k with h' | h'
            · exact hall.out j hj h'
            · obtain rfl : j = k := by omega
              exact ⟨h1, h2⟩
          clear h1 h2
          go_wp2
          go_round
          case rel => exact ⟨k + 1, by omega, by go_num, hnext.out⟩
          case measure => simp [intOf]; omega
        · have g2 : decide (126 < (s[k]'hlt).toNat) = true := decide_eq_true (by omega)
          have g2' : decide ((126 : Int) < ((s[k]'hlt).toNat : Int)) = true := decide_eq_true (by omega)
          have hr := Lib.hid (hno.out k hlt fun h => h2 h.2)
          clear h1 h2
          go_wp2
          go_ret
          exact ⟨ret_bo hr.out.symm, rfl⟩
      · have g1 : decide ((s[k]'hlt).toNat < 33) = true := decide_eq_true (by omega)
        have g1' : decide (((s[k]'hlt).toNat : Int) < 33) = true := decide_eq_true (by omega)
        have hr := Lib.hid (hno.out k hlt fun h => h1 h.1)
        clear h1
        go_wp2
        go_ret
        exact ⟨ret_bo hr.out.symm, rfl⟩
    · have hr := Lib.hid (hyes.out fun j hj => hall.out j hj (by omega))
      clear hno hyes
      generalize inR (s.size : Int) 1 most = u at *
      go_wp2_with fail
      refine (hin.out _).mono ?_
      rintro e w' ⟨rfl, rfl⟩
      go_wp2
      go_ret
      exact ⟨ret_bo hr.out.symm, rfl⟩
set_option maxHeartbeats 800000 in
theorem ok9_spec (A : Option Addr) (n c : Nat) (ws : List ByteArray) (wd : Int) {v : Bool} (hv : okW ws wd = v) (w : World) (h : Strs w A n ws) (hn : n ≤ 1048576) (hg : ∀ x ∈ ws, x.size ≤ maxLen) :
    Calls Try.prog 36 #[.slice A n c, .int .i64 wd] w fun e w' => e = .returned (.bool v) ∧ w = w' := by
  have hl := Lib.hid h.1
  have hres : Hid (v = (ws.all (wordB wd) && (decide ((n : Int) ≤ 40) && inR wd 1 80))) := Lib.hid (by rw [← hv, okW_spec, hl.out])
  have hg0 := Lib.hid hg
  have hin := Lib.hid (fun W => in8_spec (n := wd) (lo := 1) (hi := 80) rfl W)
  clear hv hg
  go_enter Try.func36, Try.ntmps36
  go_wp2
  go_loopw [5] (fun i wr => ∃ k : Nat, k ≤ n ∧ i = .int .i64 k ∧ w = wr ∧ ws.all (wordB wd) = (ws.drop k).all (wordB wd)) (fun i _ => n - (intOf i).toNat)
  case atStart => exact ⟨0, by omega, rfl, rfl, rfl⟩
  case round =>
    obtain ⟨k, hk, rfl, rfl, he⟩ := hrel
    replace he := Lib.hid he
    by_cases hlt : k < n
    · obtain ⟨b, off, x, rfl, hb, hx, c0⟩ := str_at h hlt
      have hst := Lib.hid (all8_drop (p := wordB wd) hx.out)
      have hxs := hg0.out x (List.mem_of_getElem? hx.out)
      cases h1 : wordB wd x with
      | false =>
        have hr : Hid (v = false) := Lib.hid (by rw [hres.out, he.out, hst.out, h1]; rfl)
        have hj := Lib.hid (fun W => word9_spec x wd h1 W hxs)
        clear h1
        go_wp2_with fail
        refine (hj.out _).mono ?_
        rintro e w' ⟨rfl, rfl⟩
        go_wp2
        go_ret
        exact ⟨ret_bo hr.out.symm, rfl⟩
      | true =>
        have hnext : Hid (ws.all (wordB wd) = (ws.drop (k + 1)).all (wordB wd)) := Lib.hid (by rw [he.out, hst.out, h1]; rfl)
        have hj := Lib.hid (fun W => word9_spec x wd h1 W hxs)
        clear h1
        go_wp2_with fail
        refine (hj.out _).mono ?_
        rintro e w' ⟨rfl, rfl⟩
        go_wp2
        go_roundw
        case rel => exact ⟨k + 1, by omega, by go_num, by trivial, hnext.out⟩
        case measure => simp [intOf]; omega
    · obtain rfl : k = n := by omega
      have hr : Hid (v = (decide ((k : Int) ≤ 40) && inR wd 1 80)) := Lib.hid (by rw [hres.out, he.out, all8_end (by rw [hl.out]; exact Nat.le_refl _)]; rfl)
      clear hres he
      generalize inR wd 1 80 = u at *
      by_cases h40 : (k : Int) ≤ 40
      · have hr2 : Hid (v = u) := Lib.hid (by rw [hr.out, decide_eq_true h40]; rfl)
        clear hr
        go_wp2_with fail
        refine (hin.out _).mono ?_
        rintro e w' ⟨rfl, rfl⟩
        go_wp2
        go_ret
        exact ⟨ret_bo hr2.out.symm, rfl⟩
      · have hr2 : Hid (v = false) := Lib.hid (by rw [hr.out, decide_eq_false h40]; rfl)
        clear hr
        go_wp2
        go_ret
        exact ⟨ret_bo hr2.out.symm, rfl⟩
theorem max9 (a b : Int) {v : Int} (hv : max a b = v) (w : World) : Calls Try.prog 60 #[.int .i64 a, .int .i64 b] w fun e w' => e = .returned (.int .i64 v) ∧ w = w' := by
  have hv0 := Lib.hid hv
  clear hv
  by_cases hn : b < a
  · have hres : Hid (a = v) := Lib.hid (by have := hv0.out; omega)
    go_enter Try.func60, Try.ntmps60
    go_wp2
    go_ret
    exact ⟨ret_i64 hres.out, rfl⟩
  · have hres : Hid (b = v) := Lib.hid (by have := hv0.out; omega)
    go_enter Try.func60, Try.ntmps60
    go_wp2
    go_ret
    exact ⟨ret_i64 hres.out, rfl⟩
theorem long9_spec (A : Option Addr) (n c : Nat) (ws : List ByteArray) (hn : n ≤ 1000) (hs : ∀ x ∈ ws, x.size ≤ 1000) {v : Int} (hv : (longN ws : Int) = v) (w : World) (h : Strs w A n ws) :
    Calls Try.prog 46 #[.slice A n c] w fun e w' => e = .returned (.int .i64 v) ∧ w = w' := by
  have hl := Lib.hid h.1
  have hv0 := Lib.hid hv
  have hr := Lib.hid (fun k => sizN_le 1000 (ws.take k) (fun x hx => hs x (List.mem_of_mem_take hx)))
  have hw0 : IntKind.i64.wrap ((n : Int) - 1) = (n : Int) - 1 := IntWalk.i64_in _ (by omega)
  clear hv hs
  go_enter Try.func46, Try.ntmps46
  go_wp2
  go_loopw [3, 4] (fun s i wr => ∃ k : Nat, k ≤ n ∧ i = .int .i64 k ∧ s = .int .i64 ((n : Int) - 1 + (sizN (ws.take k) : Int)) ∧ w = wr) (fun _ i _ => n - (intOf i).toNat)
  case atStart => exact ⟨0, by omega, rfl, by simp [sizN], rfl⟩
  case round =>
    obtain ⟨k, hk, rfl, rfl, rfl⟩ := hrel
    have hb1 := hr.out k
    have hlk : (ws.take k).length ≤ 1000 := by rw [List.length_take, hl.out]; omega
    by_cases hlt : k < n
    · obtain ⟨b, off, x, rfl, hb, hx, c0⟩ := str_at h hlt
      have hb2 := hr.out (k + 1)
      have hlk2 : (ws.take (k + 1)).length ≤ 1000 := by rw [List.length_take, hl.out]; omega
      have hst : sizN (ws.take (k + 1)) = sizN (ws.take k) + x.size := by rw [take8 hx.out, sizN_snoc]
      rw [hst] at hb2
      replace hst := Lib.hid hst
      have hwr : IntKind.i64.wrap ((n : Int) - 1 + (sizN (ws.take k) : Int) + (x.size : Int)) = (n : Int) - 1 + (sizN (ws.take k) : Int) + (x.size : Int) := IntWalk.i64_in _ (by omega)
      generalize sizN (ws.take k) = a at *
      clear hb1 hb2 hlk hlk2
      go_wp2
      go_roundw
      case rel => exact ⟨k + 1, by omega, by go_num, by rw [hst.out]; simp; omega, by trivial⟩
      case measure => simp [intOf]; omega
    · obtain rfl : k = n := by omega
      have hall : ws.take k = ws := List.take_of_length_le (by rw [hl.out]; omega)
      rw [hall] at *
      have hm := Lib.hid (fun W => max9 0 ((k : Int) - 1 + (sizN ws : Int)) (v := v) (by
        have := hv0.out
        rw [longN, hl.out] at this
        have h9 : ws.length = k := hl.out
        by_cases h0 : k = 0
        · have : ws = [] := List.length_eq_zero_iff.1 (by omega)
          subst this
          simp [sizN] at *
          omega
        · omega) W)
      clear hr hb1 hlk hall
      generalize sizN ws = a at *
      go_wp2_with fail
      refine (hm.out _).mono ?_
      rintro e w' ⟨rfl, rfl⟩
      go_wp2
      go_ret
      exact ⟨rfl, rfl⟩
end Go.Proofs.Ytcaojaaooadeaaa
