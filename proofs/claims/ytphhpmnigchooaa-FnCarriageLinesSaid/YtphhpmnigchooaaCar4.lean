/- Letters between whole spaces: the model's function and the program's. -/
import Derived.Test.YtphhpmnigchooaaCar3
namespace Go.Proofs.Ytphhpmnigchooaa
open Go.RowKit Go.ChangeShapes Go.WideShapes Go.Deep
set_option linter.unusedVariables false
set_option linter.unusedSimpArgs false

def oddAt (c : CarriageD) (s : StruckD) : Bool := Int.tmod (s.place - c.left) 2 != 0
def halfR (c : CarriageD) (l : List StruckD) : Bool × Int := if carOk c = true ∧ lineOk l = true then (l.any (oddAt c), 0) else (false, 1)
set_option maxRecDepth 100000 in
theorem halves_impl (r : CarriageD) (x : StruckD) (w : World) (h0 : 0 ≤ r.left) (h1 : r.left ≤ 300) (h2 : 0 ≤ x.place) (h3 : x.place ≤ 300) {v : Bool} (hv : oddAt r x = v) :
    Calls Try.prog 19 #[.agg #[.int .i64 r.left, .int .i64 r.right, .int .i64 r.bell], .agg #[.int .i64 x.place, .string x.letter]] w fun e w' => e = .returned (.bool v) ∧ Below w.heap.size w w' := by
  obtain ⟨left, right, bell⟩ := r
  obtain ⟨place, letter⟩ := x
  simp only at h0 h1 h2 h3
  have hv' : Hid ((Int.tmod (place - left) 2 != 0) = v) := Lib.hid hv
  clear hv
  go_enter Try.func19, Try.ntmps19
  go_wp2
  go_ret
  exact ⟨ret_bo hv'.out, below_a2 _ _ _⟩

set_option maxRecDepth 100000 in
set_option maxHeartbeats 1600000 in
theorem idx_halves (r : CarriageD) (p : StruckD → Bool) (A : Option Addr) (n c : Nat) (xs : List StruckD) (w : World) (h : Strucks w A n xs) (hn : n ≤ 1048576)
    (hcl : ∀ x ∈ xs, ∀ W, Calls Try.prog 19 #[.agg #[.int .i64 r.left, .int .i64 r.right, .int .i64 r.bell], .agg #[.int .i64 x.place, .string x.letter]] W fun e w' => e = .returned (.bool (p x)) ∧ Below W.heap.size W w') :
    Calls Try.prog 36 #[.slice A n c, .func (.func 19) #[.agg #[.int .i64 r.left, .int .i64 r.right, .int .i64 r.bell]] #[]] w fun e w' => (∃ i : Int, e = .returned (.int .i64 i) ∧ decide (0 ≤ i) = xs.any p) ∧ Below w.heap.size w w' := by
  replace hcl := Lib.hid hcl
  go_enter Try.func36, Try.ntmps36
  go_wp2
  go_loopw [8] (fun i wr => ∃ k : Nat, k ≤ n ∧ i = .int .i64 k ∧ Below w.heap.size w wr ∧ xs.any p = (xs.drop k).any p) (fun i _ => n - (intOf i).toNat)
  case atStart => exact ⟨0, by omega, rfl, Below.refl _ _, rfl⟩
  case round =>
    obtain ⟨k, hk, rfl, hbw, he⟩ := hrel
    replace he := Lib.hid he
    by_cases hlt : k < n
    · obtain ⟨bb, off, x, rfl, hb', hx, c0, c1⟩ := struck_at (h.below hbw) hlt
      have hk0 : (0 : Int) ≤ (k : Int) := Int.natCast_nonneg _
      have hk1 : (k : Int) < (n : Int) := by omega
      have hst := Lib.hid (any_drop1 (p := p) hx.out)
      have hc := hcl.out x (List.mem_of_getElem? hx.out) wr
      cases h1 : p x with
      | true =>
        have hr : Hid (xs.any p = true) := Lib.hid (by rw [he.out, hst.out, h1]; rfl)
        rw [h1] at hc
        replace hc := Lib.hid hc
        clear h1
        go_wp2_with fail
        refine (hc.out).mono ?_
        rintro e w1 ⟨rfl, hb1⟩
        go_wp2
        go_ret
        exact ⟨⟨_, rfl, by rw [hr.out]; simp⟩, hbw.step hb1⟩
      | false =>
        have hnx : Hid (xs.any p = (xs.drop (k + 1)).any p) := Lib.hid (by rw [he.out, hst.out, h1]; rfl)
        rw [h1] at hc
        replace hc := Lib.hid hc
        clear h1
        go_wp2_with fail
        refine (hc.out).mono ?_
        rintro e w1 ⟨rfl, hb1⟩
        go_wp2
        go_roundw
        case rel => exact ⟨k + 1, by omega, by go_num, hbw.step hb1, hnx.out⟩
        case measure => simp [intOf]; omega
    · obtain rfl : k = n := by omega
      have hr : Hid (xs.any p = false) := Lib.hid (by rw [he.out, any_end1 h.1])
      go_wp2
      go_ret
      exact ⟨⟨_, rfl, by rw [hr.out]; rfl⟩, hbw⟩
theorem has_halves (r : CarriageD) (p : StruckD → Bool) (A : Option Addr) (n c : Nat) (xs : List StruckD) (w : World) (h : Strucks w A n xs) (hn : n ≤ 1048576)
    (hcl : ∀ x ∈ xs, ∀ W, Calls Try.prog 19 #[.agg #[.int .i64 r.left, .int .i64 r.right, .int .i64 r.bell], .agg #[.int .i64 x.place, .string x.letter]] W fun e w' => e = .returned (.bool (p x)) ∧ Below W.heap.size W w') (v : Bool) (hv : xs.any p = v) :
    Calls Try.prog 22 #[.slice A n c, .func (.func 19) #[.agg #[.int .i64 r.left, .int .i64 r.right, .int .i64 r.bell]] #[]] w fun e w' => e = .returned (.bool v) ∧ Below w.heap.size w w' := by
  have hi := idx_halves r p A n c xs w h hn hcl
  rw [hv] at hi
  replace hi := Lib.hid hi
  clear hcl
  go_enter Try.func22, Try.ntmps22
  go_wp2_with fail
  refine (hi.out).mono ?_
  rintro e w1 ⟨⟨i, rfl, hiv⟩, hb1⟩
  replace hiv := Lib.hid hiv
  go_wp2
  go_ret
  exact ⟨ret_bo hiv.out, hb1⟩

theorem halfR_no1 {c : CarriageD} {l : List StruckD} (h : carOk c = false) : halfR c l = (false, 1) := by simp [halfR, h]
theorem halfR_no2 {c : CarriageD} {l : List StruckD} (h : lineOk l = false) : halfR c l = (false, 1) := by simp [halfR, h]
theorem halfR_yes {c : CarriageD} {l : List StruckD} (h : carOk c = true) (h2 : lineOk l = true) : halfR c l = (l.any (oddAt c), 0) := by simp [halfR, h, h2]
theorem line_mem {l : List StruckD} (h : lineOk l = true) : ∀ x ∈ l, (0 ≤ x.place ∧ x.place ≤ 300) ∧ isLet x.letter = true := by
  intro x hx
  have := (List.all_eq_true.1 (Bool.and_eq_true _ _ ▸ h).1) x hx
  simp only [struckOk, Bool.and_eq_true, isIn_iff] at this
  exact this
theorem ret_bi {a b : Bool} {i k : Int} (h : (a, i) = (b, k)) : Ending.returned (.tuple #[.bool a, .int .i64 i]) = .returned (.tuple #[.bool b, .int .i64 k]) := by cases h; rfl

theorem run_makeFunc_half (r : CarriageD) (W : World) : (Instr.makeFunc (.func 19) #[.agg #[.int .i64 r.left, .int .i64 r.right, .int .i64 r.bell]] #[]).run Try.prog W = .ok (.func (.func 19) #[.agg #[.int .i64 r.left, .int .i64 r.right, .int .i64 r.bell]] #[]) W := rfl
set_option maxRecDepth 100000 in
set_option maxHeartbeats 1600000 in
theorem half_impl (r : CarriageD) (A : Option Addr) (n c : Nat) (xs : List StruckD) (w : World) (hg : r.good) (h : Strucks w A n xs) (hn : n ≤ 1048576) (hx : ∀ x ∈ xs, x.good) :
    Calls Try.prog 8 #[.agg #[.int .i64 r.left, .int .i64 r.right, .int .i64 r.bell], .slice A n c] w fun e w' => e = .returned (.tuple #[.bool (halfR r xs).1, .int .i64 (halfR r xs).2]) ∧ Below w.heap.size w w' := by
  have hcar := fun W {v : Bool} (hv : carOk r = v) => car_impl r hv W
  have hmf := fun W => run_makeFunc_half r W
  cases hc : carOk r with
  | false =>
    have hc1 := Lib.hid (fun W => car_impl r hc W)
    rw [halfR_no1 hc]
    clear hc hcar hmf hx
    obtain ⟨left, right, bell⟩ := r
    go_enter Try.func8, Try.ntmps8
    go_wp2_with fail
    refine (hc1.out _).mono ?_
    rintro e w1 ⟨rfl, hb1⟩
    go_wp2
    go_ret2
    exact ⟨rfl, (below_a1 _ _).step hb1⟩
  | true =>
    have hcc := carOk_iff.1 hc
    have hc1 := Lib.hid (fun W => car_impl r hc W)
    cases hl : lineOk xs with
    | false =>
      have hl1 := Lib.hid (fun W (hS : Strucks W A n xs) => line_impl A n c xs W hS hn hx hl)
      rw [halfR_no2 hl]
      clear hc hcar hmf hx hl
      obtain ⟨left, right, bell⟩ := r
      go_enter Try.func8, Try.ntmps8
      go_wp2_with fail
      refine (hc1.out _).mono ?_
      rintro e w1 ⟨rfl, hb1⟩
      have hb2 := (below_a1 _ _).step hb1
      have hS := h.below hb2
      go_wp2_with fail
      refine (hl1.out _ hS).mono ?_
      rintro e w2 ⟨rfl, hb3⟩
      go_wp2
      go_ret2
      exact ⟨rfl, hb2.step hb3⟩
    | true =>
      have hl1 := Lib.hid (fun W (hS : Strucks W A n xs) => line_impl A n c xs W hS hn hx hl)
      have hmem := Lib.hid (line_mem hl)
      have hh := Lib.hid (fun W (hS : Strucks W A n xs) => has_halves r (oddAt r) A n c xs W hS hn (fun x hm W' => halves_impl r x W' hcc.1.1 hcc.1.2 (hmem.out x hm).1.1 (hmem.out x hm).1.2 rfl) _ rfl)
      rw [halfR_yes hc hl]
      generalize xs.any (oddAt r) = v at *
      clear hc hcar hx hl hcc
      obtain ⟨left, right, bell⟩ := r
      replace hmf := Lib.hid hmf
      go_enter Try.func8, Try.ntmps8
      go_wp2_with fail
      refine (hc1.out _).mono ?_
      rintro e w1 ⟨rfl, hb1⟩
      have d0 : w1.cell? ⟨w.heap.size, 0, none⟩ = some (.int .i64 left) := cell_step (cell_new rfl rfl) hb1
      have d1 : w1.cell? ⟨w.heap.size, 1, none⟩ = some (.int .i64 right) := cell_step (cell_new rfl rfl) hb1
      have d2 : w1.cell? ⟨w.heap.size, 2, none⟩ = some (.int .i64 bell) := cell_step (cell_new rfl rfl) hb1
      have hb2 := (below_a1 _ _).step hb1
      have hS := h.below hb2
      go_wp2_with fail
      refine (hl1.out _ hS).mono ?_
      rintro e w2 ⟨rfl, hb3⟩
      replace d0 := cell_step d0 hb3
      replace d1 := cell_step d1 hb3
      replace d2 := cell_step d2 hb3
      have hS2 := hS.below hb3
      replace hmf := hmf.out
      go_wp2_with fail
      refine (hh.out _ hS2).mono ?_
      rintro e w3 ⟨rfl, hb4⟩
      go_wp2
      go_ret2
      exact ⟨rfl, (hb2.step hb3).step hb4⟩

set_option maxRecDepth 100000 in
set_option maxHeartbeats 1600000 in
theorem half_spec (r : CarriageD) (A : Option Addr) (n c : Nat) (xs : List StruckD) (w : World) (hg : r.good) (h : Strucks w A n xs) (hn : n ≤ 1048576) (hx : ∀ x ∈ xs, x.good) :
    Calls Try.prog 9 #[.agg #[.int .i64 r.left, .int .i64 r.right, .int .i64 r.bell], .slice A n c] w fun e w' => e = .returned (.tuple #[.bool (halfR r xs).1, .int .i64 (halfR r xs).2]) ∧ Below w.heap.size w w' := by
  cases hc : carOk r with
  | false =>
    have hc1 := Lib.hid (fun W => car_spec r hc W)
    rw [halfR_no1 hc]
    clear hc hx
    obtain ⟨left, right, bell⟩ := r
    go_enter Try.func9, Try.ntmps9
    go_wp2_with fail
    refine (hc1.out _).mono ?_
    rintro e w1 ⟨rfl, hb1⟩
    go_wp2
    go_ret2
    exact ⟨rfl, (below_a1 _ _).step hb1⟩
  | true =>
    have hcc := carOk_iff.1 hc
    have hc1 := Lib.hid (fun W => car_spec r hc W)
    cases hl : lineOk xs with
    | false =>
      have hl1 := Lib.hid (fun W (hS : Strucks W A n xs) => line_spec A n c xs W hS hn hx hl)
      rw [halfR_no2 hl]
      clear hc hx hl
      obtain ⟨left, right, bell⟩ := r
      go_enter Try.func9, Try.ntmps9
      go_wp2_with fail
      refine (hc1.out _).mono ?_
      rintro e w1 ⟨rfl, hb1⟩
      have hb2 := (below_a1 _ _).step hb1
      have hS := h.below hb2
      go_wp2_with fail
      refine (hl1.out _ hS).mono ?_
      rintro e w2 ⟨rfl, hb3⟩
      go_wp2
      go_ret2
      exact ⟨rfl, hb2.step hb3⟩
    | true =>
      have hl1 := Lib.hid (fun W (hS : Strucks W A n xs) => line_spec A n c xs W hS hn hx hl)
      have hmem := Lib.hid (line_mem hl)
      obtain ⟨⟨l0, l1⟩, _, _, _⟩ := hcc
      rw [halfR_yes hc hl]
      have hv : Hid (xs.any (oddAt r) = xs.any (oddAt r)) := Lib.hid rfl
      generalize hvv : xs.any (oddAt r) = v
      have hodd : ∀ x : StruckD, oddAt r x = (Int.tmod (x.place - r.left) 2 != 0) := fun _ => rfl
      generalize oddAt r = p at *
      clear hc hx hl hv
      obtain ⟨left, right, bell⟩ := r
      simp only at l0 l1
      replace hodd := Lib.hid hodd
      replace hvv := Lib.hid hvv
      go_enter Try.func9, Try.ntmps9
      go_wp2_with fail
      refine (hc1.out _).mono ?_
      rintro e w1 ⟨rfl, hb1⟩
      have d0 : w1.cell? ⟨w.heap.size, 0, none⟩ = some (.int .i64 left) := cell_step (cell_new rfl rfl) hb1
      have hb2 := (below_a1 _ _).step hb1
      have hS := h.below hb2
      go_wp2_with fail
      refine (hl1.out _ hS).mono ?_
      rintro e w2 ⟨rfl, hb3⟩
      replace d0 := cell_step d0 hb3
      have hS2 := hS.below hb3
      have hbb := Lib.hid (hb2.step hb3)
      clear hb1 hb2 hb3 hS h hc1 hl1
      generalize hN : w.heap.size = N at *
      replace hN := Lib.hid hN
      have hNlt := World.block_lt_of_cell? _ _ d0
      go_wp2
      go_loopw [6] (fun i wr => ∃ k : Nat, k ≤ n ∧ i = .int .i64 k ∧ Below w2.heap.size w2 wr ∧ xs.any p = (xs.drop k).any p) (fun i _ => n - (intOf i).toNat)
      case atStart => exact ⟨0, by omega, rfl, Below.refl _ _, rfl⟩
      case round =>
        obtain ⟨k, hk, rfl, hbw, he⟩ := hrel
        replace he := Lib.hid he
        by_cases hlt : k < n
        · obtain ⟨bb, off, x, rfl, hb', hxs, c0, c1⟩ := struck_at (hS2.below hbw) hlt
          have d0w := (hbw.cell (p := ⟨N, 0, none⟩) hNlt).trans d0
          have hst := Lib.hid (any_drop1 (p := p) hxs.out)
          obtain ⟨⟨x0, x1⟩, _⟩ := hmem.out x (List.mem_of_getElem? hxs.out)
          have hk0 : (0 : Int) ≤ (k : Int) := Int.natCast_nonneg _
          have hk1 : (k : Int) < (n : Int) := by omega
          cases h1 : p x with
          | true =>
            have hr : Hid (v = true) := Lib.hid (by rw [← hvv.out, he.out, hst.out, h1]; rfl)
            have g : (Int.tmod (x.place - left) 2 != 0) = true := by rw [← h1, hodd.out]
            clear h1
            go_wp2_with fail
            go_quiet (fail)
            go_wp2
            go_ret2
            obtain rfl := hN.out
            exact ⟨by rw [hr.out]; rfl, hbb.out.step (below_drewN hbw _)⟩
          | false =>
            have hnx : Hid (xs.any p = (xs.drop (k + 1)).any p) := Lib.hid (by rw [he.out, hst.out, h1]; rfl)
            have g : (Int.tmod (x.place - left) 2 != 0) = false := by rw [← h1, hodd.out]
            clear h1
            go_wp2_with fail
            go_quiet (fail)
            go_wp2
            go_roundw
            case rel => exact ⟨k + 1, by omega, by go_num, below_drewN hbw _, hnx.out⟩
            case measure => simp [intOf]; omega
        · obtain rfl : k = n := by omega
          have hr : Hid (v = false) := Lib.hid (by rw [← hvv.out, he.out, any_end1 hS2.1])
          go_wp2
          go_ret2
          obtain rfl := hN.out
          exact ⟨by rw [hr.out]; rfl, hbb.out.step hbw⟩
end Go.Proofs.Ytphhpmnigchooaa
