/- Letters between whole spaces: the model's function and the program's. -/
import Derived.Test.YtiopeheockajaaaDoorCar3
namespace Go.Proofs.YtiopeheockajaaaDoor
open Go.RowKit Go.ChangeShapes Go.WideShapes Go.Deep
set_option linter.unusedVariables false
set_option linter.unusedSimpArgs false

def oddAt (c : CarriageD) (s : StruckD) : Bool := Int.tmod (s.place - c.left) 2 != 0
def halfR (c : CarriageD) (l : List StruckD) : Bool × Int := if carOk c = true ∧ lineOk l = true then (l.any (oddAt c), 0) else (false, 1)
set_option maxRecDepth 100000 in
theorem halves_impl (r : CarriageD) (x : StruckD) (w : World) (h0 : 0 ≤ r.left) (h1 : r.left ≤ 300) (h2 : 0 ≤ x.place) (h3 : x.place ≤ 300) {v : Bool} (hv : oddAt r x = v) :
    Calls Tryd.prog 50 #[.agg #[.int .i64 r.left, .int .i64 r.right, .int .i64 r.bell], .agg #[.int .i64 x.place, .string x.letter]] w fun e w' => e = .returned (.bool v) ∧ Below w.heap.size w w' := by
  obtain ⟨left, right, bell⟩ := r
  obtain ⟨place, letter⟩ := x
  simp only at h0 h1 h2 h3
  have hv' : Hid ((Int.tmod (place - left) 2 != 0) = v) := Lib.hid hv
  clear hv
  go_enter Tryd.func50, Tryd.ntmps50
  go_wp2
  go_ret
  exact ⟨ret_bo hv'.out, below_a2 _ _ _⟩

set_option maxRecDepth 100000 in
set_option maxHeartbeats 1600000 in
theorem idx_halves (r : CarriageD) (p : StruckD → Bool) (A : Option Addr) (n c : Nat) (xs : List StruckD) (w : World) (h : Strucks w A n xs) (hn : n ≤ 1048576)
    (hcl : ∀ x ∈ xs, ∀ W, Calls Tryd.prog 50 #[.agg #[.int .i64 r.left, .int .i64 r.right, .int .i64 r.bell], .agg #[.int .i64 x.place, .string x.letter]] W fun e w' => e = .returned (.bool (p x)) ∧ Below W.heap.size W w') :
    Calls Tryd.prog 76 #[.slice A n c, .func (.func 50) #[.agg #[.int .i64 r.left, .int .i64 r.right, .int .i64 r.bell]] #[]] w fun e w' => (∃ i : Int, e = .returned (.int .i64 i) ∧ decide (0 ≤ i) = xs.any p) ∧ Below w.heap.size w w' := by
  replace hcl := Lib.hid hcl
  go_enter Tryd.func76, Tryd.ntmps76
  go_wp2
  go_loopw [8] (fun i wr => ∃ k : Nat, k ≤ n ∧ i = .int .i64 k ∧ Below w.heap.size w wr ∧ xs.any p = (xs.drop k).any p) (fun i _ => n - (intOf i).toNat)
  case atStart => exact ⟨0, by omega, rfl, Below.refl _ _, rfl⟩
  case round =>
    obtain ⟨k, hk, rfl, hbw, he⟩ := hrel
    replace he := Lib.hid he
    by_cases hlt : k < n
    · obtain ⟨bb, off, x, rfl, hb', hx, c0, c1⟩ := struck_at (h.below hbw) hlt
      have hk0 : (0 : Int) ≤ (k : Int) := Int.natCast_nonneg _
      have hk1 : (k : Int) < (n : Int) := by omega
      have hst := Lib.hid (any_drop1 (p := p) hx.out)
      have hc := hcl.out x (List.mem_of_getElem? hx.out) wr
      cases h1 : p x with
      | true =>
        have hr : Hid (xs.any p = true) := Lib.hid (by rw [he.out, hst.out, h1]; rfl)
        rw [h1] at hc
        replace hc := Lib.hid hc
        clear h1
        go_wp2_with fail
        refine (hc.out).mono ?_
        rintro e w1 ⟨rfl, hb1⟩
        go_wp2
        go_ret
        exact ⟨⟨_, rfl, by rw [hr.out]; simp⟩, hbw.step hb1⟩
      | false =>
        have hnx : Hid (xs.any p = (xs.drop (k + 1)).any p) := Lib.hid (by rw [he.out, hst.out, h1]; rfl)
        rw [h1] at hc
        replace hc := Lib.hid hc
        clear h1
        go_wp2_with fail
        refine (hc.out).mono ?_
        rintro e w1 ⟨rfl, hb1⟩
        go_wp2
        go_roundw
        case rel => exact ⟨k + 1, by omega, by go_num, hbw.step hb1, hnx.out⟩
        case measure => simp [intOf]; omega
    · obtain rfl : k = n := by omega
      have hr : Hid (xs.any p = false) := Lib.hid (by rw [he.out, any_end1 h.1])
      go_wp2
      go_ret
      exact ⟨⟨_, rfl, by rw [hr.out]; rfl⟩, hbw⟩
theorem has_halves (r : CarriageD) (p : StruckD → Bool) (A : Option Addr) (n c : Nat) (xs : List StruckD) (w : World) (h : Strucks w A n xs) (hn : n ≤ 1048576)
    (hcl : ∀ x ∈ xs, ∀ W, Calls Tryd.prog 50 #[.agg #[.int .i64 r.left, .int .i64 r.right, .int .i64 r.bell], .agg #[.int .i64 x.place, .string x.letter]] W fun e w' => e = .returned (.bool (p x)) ∧ Below W.heap.size W w') (v : Bool) (hv : xs.any p = v) :
    Calls Tryd.prog 66 #[.slice A n c, .func (.func 50) #[.agg #[.int .i64 r.left, .int .i64 r.right, .int .i64 r.bell]] #[]] w fun e w' => e = .returned (.bool v) ∧ Below w.heap.size w w' := by
  have hi := idx_halves r p A n c xs w h hn hcl
  rw [hv] at hi
  replace hi := Lib.hid hi
  clear hcl
  go_enter Tryd.func66, Tryd.ntmps66
  go_wp2_with fail
  refine (hi.out).mono ?_
  rintro e w1 ⟨⟨i, rfl, hiv⟩, hb1⟩
  replace hiv := Lib.hid hiv
  go_wp2
  go_ret
  exact ⟨ret_bo hiv.out, hb1⟩

theorem halfR_no1 {c : CarriageD} {l : List StruckD} (h : carOk c = false) : halfR c l = (false, 1) := by simp [halfR, h]
theorem halfR_no2 {c : CarriageD} {l : List StruckD} (h : lineOk l = false) : halfR c l = (false, 1) := by simp [halfR, h]
theorem halfR_yes {c : CarriageD} {l : List StruckD} (h : carOk c = true) (h2 : lineOk l = true) : halfR c l = (l.any (oddAt c), 0) := by simp [halfR, h, h2]
theorem line_mem {l : List StruckD} (h : lineOk l = true) : ∀ x ∈ l, (0 ≤ x.place ∧ x.place ≤ 300) ∧ isLet x.letter = true := by
  intro x hx
  have := (List.all_eq_true.1 (Bool.and_eq_true _ _ ▸ h).1) x hx
  simp only [struckOk, Bool.and_eq_true, isIn_iff] at this
  exact this
theorem ret_bi {a b : Bool} {i k : Int} (h : (a, i) = (b, k)) : Ending.returned (.tuple #[.bool a, .int .i64 i]) = .returned (.tuple #[.bool b, .int .i64 k]) := by cases h; rfl

theorem run_makeFunc_half (r : CarriageD) (W : World) : (Instr.makeFunc (.func 50) #[.agg #[.int .i64 r.left, .int .i64 r.right, .int .i64 r.bell]] #[]).run Tryd.prog W = .ok (.func (.func 50) #[.agg #[.int .i64 r.left, .int .i64 r.right, .int .i64 r.bell]] #[]) W := rfl
end Go.Proofs.YtiopeheockajaaaDoor
