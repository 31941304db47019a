/- Centring: the program's helpers. -/
import Derived.Test.YtalmpiffjghhkaaDoorCen4
namespace Go.Proofs.YtalmpiffjghhkaaDoor
open Go.RowKit Go.ChangeShapes Go.WideShapes Go.Deep
set_option linter.unusedVariables false
set_option linter.unusedSimpArgs false

theorem bline10 (s : ByteArray) {v : Bool} (hv : lineB s = v) (w : World) (hs : s.size ≤ maxLen) :
    Calls Tryd.prog 53 #[.string s] w fun e w' => e = .returned (.bool v) ∧ w = w' := by
  have hc := Lib.hid (hasBytes_any s 32 126 100 v hv w hs)
  clear hv
  go_enter Tryd.func53, Tryd.ntmps53
  go_wp2_with fail
  refine hc.out.mono ?_
  rintro e w1 ⟨rfl, rfl⟩
  go_wp2
  go_ret
  exact ⟨rfl, rfl⟩
theorem width10 (wd : Int) {v : Bool} (hv : inR wd 1 100 = v) (w : World) :
    Calls Tryd.prog 45 #[.int .i64 wd] w fun e w' => e = .returned (.bool v) ∧ w = w' := by
  have hc := Lib.hid (fun W => in8_impl hv W)
  clear hv
  go_enter Tryd.func45, Tryd.ntmps45
  go_wp2_with fail
  refine (hc.out _).mono ?_
  rintro e w1 ⟨rfl, rfl⟩
  go_wp2
  go_ret
  exact ⟨rfl, rfl⟩
theorem half10 (d : Nat) (hd : d ≤ 1000) (w : World) :
    Calls Tryd.prog 36 #[.int .i64 (d : Int)] w fun e w' => e = .returned (.int .i64 ((d / 2 : Nat) : Int)) ∧ w = w' := by
  have he0 : d / 2 ≤ d := Nat.div_le_self _ _
  have hq2 := quo2 d
  obtain ⟨e, he⟩ : ∃ e, d / 2 = e := ⟨_, rfl⟩
  rw [he] at hq2 he0
  have hwe : IntKind.i64.wrap (e : Int) = (e : Int) := IntWalk.i64_in _ (by omega)
  rw [he]
  clear he
  go_enter Tryd.func36, Tryd.ntmps36
  go_wp2
  go_ret
  exact ⟨rfl, rfl⟩
theorem miss10 (s : ByteArray) (L : Int) {q : Int} (hq : IntKind.i64.wrap (L - (s.size : Int)) = q) (w : World) :
    Calls Tryd.prog 46 #[.string s, .int .i64 L] w fun e w' => e = .returned (.int .i64 q) ∧ w = w' := by
  go_enter Tryd.func46, Tryd.ntmps46
  go_wp2
  go_ret
  exact ⟨rfl, rfl⟩
/-- What a test of a text answers, whatever the world. -/
def Tests (F : Nat) (p : ByteArray → Bool) (ls : List ByteArray) : Prop :=
  ∀ x, x ∈ ls → ∀ W, Calls Tryd.prog F #[.string x] W fun e w' => e = .returned (.bool (p x)) ∧ Below W.heap.size W w'
theorem tests_line {ls : List ByteArray} (hg : ∀ x ∈ ls, x.size ≤ maxLen) : Tests 53 lineB ls := fun x hx W =>
  (bline10 x rfl W (hg x hx)).mono (by rintro e w1 ⟨rfl, rfl⟩; exact ⟨rfl, Below.refl _ _⟩)
set_option maxHeartbeats 1600000 in
theorem block10 (A : Option Addr) (n c : Nat) (ls : List ByteArray) (p : ByteArray → Bool) (hF : Tests 53 p ls) {v : Bool} (hv : (decide (n ≤ 30) && ls.all p) = v) (w : World) (h : Strs w A n ls) (hn : n ≤ 1048576) :
    Calls Tryd.prog 48 #[.slice A n c, .func (.func 53) #[] #[]] w fun e w' => e = .returned (.bool v) ∧ Below w.heap.size w w' := by
  have hl := Lib.hid h.1
  by_cases h30 : n ≤ 30
  · have hv2 := Lib.hid (show ls.all p = v by rw [← hv, decide_eq_true h30, Bool.true_and])
    have g0 : decide ((30 : Int) < (n : Int)) = false := decide_eq_false (by omega)
    replace hF := Lib.hid hF
    clear hv
    go_enter Tryd.func48, Tryd.ntmps48
    go_wp2
    go_loopw [6, 12] (fun a q wr => ∃ k : Nat, k ≤ n ∧ q = .int .i64 k ∧ (ls.drop k).all p = v ∧ Below w.heap.size w wr) (fun _ q _ => n - (intOf q).toNat)
    case atStart => exact ⟨0, by omega, rfl, hv2.out, Below.refl _ _⟩
    case round =>
      obtain ⟨k, hk, rfl, hall, hbw⟩ := hrel
      by_cases hlt : k < n
      · obtain ⟨bb, off, x, rfl, hb, hx, d0⟩ := str_at (h.below hbw) hlt
        have hcl := Lib.hid (hF.out x (List.mem_of_getElem? hx.out))
        have hal := hall
        rw [all8_drop hx.out] at hal
        have hk0 : (0 : Int) ≤ (k : Int) := Int.natCast_nonneg _
        have hk1 : (k : Int) < (n : Int) := by omega
        replace hall := Lib.hid hall
        cases hp : p x with
        | true =>
          rw [hp, Bool.true_and] at hal
          rw [hp] at hcl
          replace hal := Lib.hid hal
          clear hp
          go_wp2_with fail
          refine (hcl.out _).mono ?_
          rintro e w1 ⟨rfl, hb1⟩
          go_wp2
          go_roundw
          case rel => exact ⟨k + 1, by omega, by go_num, hal.out, hbw.step hb1⟩
          case measure => simp [intOf]; omega
        | false =>
          rw [hp, Bool.false_and] at hal
          rw [hp] at hcl
          replace hal := Lib.hid hal
          clear hp
          go_wp2_with fail
          refine (hcl.out _).mono ?_
          rintro e w1 ⟨rfl, hb1⟩
          go_wp2
          go_ret
          exact ⟨ret_bo hal.out, hbw.step hb1⟩
      · obtain rfl : k = n := by omega
        have g1 : ¬ (k : Int) < (k : Int) := by omega
        have hfin : Hid (true = v) := Lib.hid (by rw [← hall, all8_end (by rw [hl.out]; omega)])
        replace hall := Lib.hid hall
        go_wp2
        go_ret
        exact ⟨ret_bo hfin.out, hbw⟩
  · have g0 : decide ((30 : Int) < (n : Int)) = true := decide_eq_true (by omega)
    have hr : Hid (v = false) := Lib.hid (by rw [← hv, decide_eq_false h30, Bool.false_and])
    replace h30 := Lib.hid h30
    clear hv h
    go_enter Tryd.func48, Tryd.ntmps48
    go_wp2
    go_ret
    exact ⟨ret_bo hr.out.symm, Below.refl _ _⟩
end Go.Proofs.YtalmpiffjghhkaaDoor
