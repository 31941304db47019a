/- The law on tables and columns: its helpers. -/
import Derived.Test.YtmgoidngecimbaaTc0
import Derived.Test.YtmgoidngecimbaaTd5
import Derived.Test.YtmgoidngecimbaaNumS
namespace Go.Proofs.Ytmgoidngecimbaa
open Go.RowKit Go.ChangeShapes Go.WideShapes Go.Deep
set_option linter.unusedVariables false
set_option linter.unusedSimpArgs false

theorem big8 (A : Option Addr) (n c : Nat) (w : World) (v : Bool) (hv : decide (4096 < n) = v) (hn : n ≤ maxLen) :
    Calls Try.prog 4 #[.slice A n c] w fun e w' => e = .returned (.bool v) ∧ w = w' := by
  unfold maxLen at hn
  have hr : Hid (v = decide ((4096 : Int) < (n : Int))) := Lib.hid (by
    rw [← hv]
    apply decide_eq_decide.2
    omega)
  clear hv
  go_enter Try.func4, Try.ntmps4
  go_wp2
  go_ret
  exact ⟨ret_bo hr.out.symm, rfl⟩
set_option maxHeartbeats 800000 in
theorem f6ints_any (A B : Option Addr) (n c d : Nat) (xs : List Int) (w : World) (hA : Ints w A n xs) (hB : Ints w B n xs) (hn : n ≤ 1048576) :
    Calls Try.prog 23 #[.slice A n c, .slice B n d] w fun e w' => e = .returned (.bool true) ∧ Below w.heap.size w w' := by
  go_enter Try.func23, Try.ntmps23
  go_wp2
  go_loopw [5] (fun i wr => ∃ k : Nat, k ≤ n ∧ i = .int .i64 k ∧ Below w.heap.size w wr) (fun i _ => n - (intOf i).toNat)
  case atStart => exact ⟨0, by omega, rfl, Below.refl _ _⟩
  case round =>
    obtain ⟨k, hk, rfl, hbw⟩ := hrel
    by_cases hlt : k < n
    · obtain ⟨b, off, x, rfl, hb, hx, c0⟩ := int_at (hA.below hbw) hlt
      obtain ⟨b', off', y, rfl, hb', hy, d0⟩ := int_at (hB.below hbw) hlt
      obtain rfl : x = y := by have h1 := hx.out; have h2 := hy.out; rw [h1] at h2; exact Option.some.inj h2
      have hk0 : (0 : Int) ≤ (k : Int) := Int.natCast_nonneg _
      have hk1 : (k : Int) < (n : Int) := by omega
      have e1 : (x == x) = true := beq_self_eq_true x
      have e2 : (x != x) = false := by simp
      go_wp2_with fail
      go_quiet (fail)
      go_wp2
      go_roundw
      case rel => exact ⟨k + 1, by omega, by go_num, below_drewN hbw _⟩
      case measure => simp [intOf]; omega
    · obtain rfl : k = n := by omega
      go_wp2
      go_ret
      exact ⟨rfl, hbw⟩
set_option maxHeartbeats 800000 in
theorem f6texts_any (A B : Option Addr) (n c d : Nat) (xs : List ByteArray) (w : World) (hA : Strs w A n xs) (hB : Strs w B n xs) (hn : n ≤ 1048576) :
    Calls Try.prog 22 #[.slice A n c, .slice B n d] w fun e w' => e = .returned (.bool true) ∧ Below w.heap.size w w' := by
  go_enter Try.func22, Try.ntmps22
  go_wp2
  go_loopw [5] (fun i wr => ∃ k : Nat, k ≤ n ∧ i = .int .i64 k ∧ Below w.heap.size w wr) (fun i _ => n - (intOf i).toNat)
  case atStart => exact ⟨0, by omega, rfl, Below.refl _ _⟩
  case round =>
    obtain ⟨k, hk, rfl, hbw⟩ := hrel
    by_cases hlt : k < n
    · obtain ⟨b, off, x, rfl, hb, hx, c0⟩ := str_at (hA.below hbw) hlt
      obtain ⟨b', off', y, rfl, hb', hy, d0⟩ := str_at (hB.below hbw) hlt
      obtain rfl : x = y := by have h1 := hx.out; have h2 := hy.out; rw [h1] at h2; exact Option.some.inj h2
      have hk0 : (0 : Int) ≤ (k : Int) := Int.natCast_nonneg _
      have hk1 : (k : Int) < (n : Int) := by omega
      go_wp2_with fail
      go_quiet (fail)
      go_wp2
      go_roundw
      case rel => exact ⟨k + 1, by omega, by go_num, below_drewN hbw _⟩
      case measure => simp [intOf]; omega
    · obtain rfl : k = n := by omega
      go_wp2
      go_ret
      exact ⟨rfl, hbw⟩
set_option maxHeartbeats 800000 in
theorem f6sum_any (A : Option Addr) (n c : Nat) (ws : List Int) (hn : n ≤ 12) (hg : ∀ x ∈ ws, 0 ≤ x ∧ x ≤ 120) (w : World) (h : Ints w A n ws) {v : Int} (hv : sumI ws = v) :
    Calls Try.prog 24 #[.slice A n c] w fun e w' => e = .returned (.int .i64 v) ∧ Below w.heap.size w w' := by
  have hl := Lib.hid h.1
  have hv0 := Lib.hid hv
  have hr := Lib.hid (fun k => sumI_range (ws.take k) (fun x hx => hg x (List.mem_of_mem_take hx)))
  have hg0 := Lib.hid hg
  clear hv hg
  go_enter Try.func24, Try.ntmps24
  go_wp2
  go_loopw [3, 4] (fun s i wr => ∃ k : Nat, k ≤ n ∧ i = .int .i64 k ∧ s = .int .i64 (sumI (ws.take k)) ∧ Below w.heap.size w wr) (fun _ i _ => n - (intOf i).toNat)
  case atStart => exact ⟨0, by omega, rfl, rfl, Below.refl _ _⟩
  case round =>
    obtain ⟨k, hk, rfl, rfl, hbw⟩ := hrel
    by_cases hlt : k < n
    · obtain ⟨b, off, x, rfl, hb, hx, c0⟩ := int_at (h.below hbw) hlt
      have hst := Lib.hid (show sumI (ws.take (k + 1)) = sumI (ws.take k) + x by rw [take8 hx.out, sumI_snoc])
      obtain ⟨r0, r1⟩ := hr.out k
      have hlk : (ws.take k).length ≤ 12 := by rw [List.length_take, hl.out]; omega
      have hxx := hg0.out x (List.mem_of_getElem? hx.out)
      have hwr : IntKind.i64.wrap (sumI (ws.take k) + x) = sumI (ws.take k) + x := IntWalk.i64_in _ (by omega)
      generalize sumI (ws.take k) = a at *
      clear r0 r1 hlk hxx
      go_wp2
      go_roundw
      case rel => exact ⟨k + 1, by omega, by go_num, by rw [hst.out], hbw⟩
      case measure => simp [intOf]; omega
    · obtain rfl : k = n := by omega
      have hq : Hid (sumI (ws.take k) = v) := Lib.hid (by rw [List.take_of_length_le (by rw [hl.out]; omega)]; exact hv0.out)
      go_wp2
      go_ret
      exact ⟨ret_i64 hq.out, hbw⟩

theorem f6point_pn (s : ByteArray) (hs : s.size ≤ 1048576) {v : Nat} (hv : pn s.data.toList = v) (w : World) :
    Calls Try.prog 25 #[.string s] w fun e w' => e = .returned (.int .i64 (v : Int)) ∧ w = w' := by
  have hv0 := Lib.hid hv
  clear hv
  go_enter Try.func25, Try.ntmps25
  go_wp2
  go_loopw [3] (fun i wr => ∃ k : Nat, k ≤ s.size ∧ i = .int .i64 k ∧ w = wr ∧ pn s.data.toList = k + pn (s.data.toList.drop k)) (fun i _ => s.size - (intOf i).toNat)
  case atStart => exact ⟨0, by omega, rfl, rfl, by simp⟩
  case round =>
    obtain ⟨k, hk, rfl, rfl, he⟩ := hrel
    replace he := Lib.hid he
    by_cases hlt : k < s.size
    · have hp := Lib.hid (pn_at s k hlt)
      have hk1 : (k : Int) < (s.size : Int) := by omega
      by_cases hb : (s[k]'hlt).toNat = 46
      · have g1 : (((s[k]'hlt).toNat : Int) == 46) = true := beq_iff_eq.2 (by omega)
        have g1' : ((s[k]'hlt).toNat == 46) = true := beq_iff_eq.2 hb
        have hr : Hid (v = k) := Lib.hid (by rw [← hv0.out, he.out, hp.out, if_pos hb]; rfl)
        replace hb := Lib.hid hb
        go_wp2
        go_ret
        exact ⟨by rw [hr.out]; rfl, rfl⟩
      · have g1 : (((s[k]'hlt).toNat : Int) == 46) = false := beq_eq_false_iff_ne.2 (by omega)
        have g1' : ((s[k]'hlt).toNat == 46) = false := beq_eq_false_iff_ne.2 hb
        have hnx : Hid (pn s.data.toList = (k + 1) + pn (s.data.toList.drop (k + 1))) := Lib.hid (by rw [he.out, hp.out, if_neg hb]; omega)
        replace hb := Lib.hid hb
        go_wp2
        go_roundw
        case rel => exact ⟨k + 1, by omega, by go_num, by trivial, hnx.out⟩
        case measure => simp [intOf]; omega
    · obtain rfl : k = s.size := by omega
      have hr : Hid (v = s.size) := Lib.hid (by rw [← hv0.out, he.out, List.drop_of_length_le (by rw [size_len8]; omega)]; rfl)
      go_wp2
      go_ret
      exact ⟨by rw [hr.out]; rfl, rfl⟩

theorem f6point_any (s : ByteArray) (hs : s.size ≤ 1048576) {v : Int} (hv : pnI s = v) (w : World) :
    Calls Try.prog 25 #[.string s] w fun e w' => e = .returned (.int .i64 v) ∧ Below w.heap.size w w' := by
  subst hv
  exact (f6point_pn s hs rfl w).mono fun e w' ⟨he, hw⟩ => ⟨he, by subst hw; exact Below.refl _ _⟩
theorem keep3 {w0 w w' : World} {p q : Addr} {u v : Value} (h : Below w0.heap.size w0 w ∧ w.cell? p = some u ∧ w.cell? q = some v) (hb : Below w.heap.size w w') : Below w0.heap.size w0 w' ∧ w'.cell? p = some u ∧ w'.cell? q = some v :=
  ⟨h.1.step hb, cell_step h.2.1 hb, cell_step h.2.2 hb⟩
theorem keep2 {w0 w w' : World} {p : Addr} {u : Value} (h : Below w0.heap.size w0 w ∧ w.cell? p = some u) (hb : Below w.heap.size w w') : Below w0.heap.size w0 w' ∧ w'.cell? p = some u :=
  ⟨h.1.step hb, cell_step h.2 hb⟩
end Go.Proofs.Ytmgoidngecimbaa
