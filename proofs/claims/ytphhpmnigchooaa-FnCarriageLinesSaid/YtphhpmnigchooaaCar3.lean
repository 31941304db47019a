/- What stands on a line: whether it is valid, whether two lists are equal: the model's functions and the program's. -/
import Derived.Test.YtphhpmnigchooaaCar2
import Derived.Laws.StructEq
namespace Go.Proofs.Ytphhpmnigchooaa
open Go.RowKit Go.ChangeShapes Go.WideShapes Go.Deep
set_option linter.unusedVariables false
set_option linter.unusedSimpArgs false

set_option maxRecDepth 100000 in
set_option maxHeartbeats 1600000 in
theorem line_spec (A : Option Addr) (n c : Nat) (xs : List StruckD) (w : World) (h : Strucks w A n xs) (hn : n ≤ 1048576) (hx : ∀ x ∈ xs, x.good) {v : Bool} (hv : lineOk xs = v) :
    Calls Try.prog 21 #[.slice A n c] w fun e w' => e = .returned (.bool v) ∧ Below w.heap.size w w' := by
  replace hx := Lib.hid hx
  have hres : Hid (v = (xs.all struckOk && decide ((n : Int) ≤ 200))) := Lib.hid (by
    rw [← hv, lineOk, h.1]
    congr 1
    exact decide_eq_decide.2 (by omega))
  clear hv
  go_enter Try.func21, Try.ntmps21
  go_wp2
  go_loopw [3] (fun i wr => ∃ k : Nat, k ≤ n ∧ i = .int .i64 k ∧ Below w.heap.size w wr ∧ xs.all struckOk = (xs.drop k).all struckOk) (fun i _ => n - (intOf i).toNat)
  case atStart => exact ⟨0, by omega, rfl, Below.refl _ _, rfl⟩
  case round =>
    obtain ⟨k, hk, rfl, hbw, he⟩ := hrel
    replace he := Lib.hid he
    by_cases hlt : k < n
    · obtain ⟨b, off, x, rfl, hb, hxs, c0, c1⟩ := struck_at (h.below hbw) hlt
      have hst := Lib.hid (all_drop (p := struckOk) hxs.out)
      have hgx := hx.out x (List.mem_of_getElem? hxs.out)
      have hk0 : (0 : Int) ≤ (k : Int) := Int.natCast_nonneg _
      have hk1 : (k : Int) < (n : Int) := by omega
      cases hi : isIn x.place 0 300 with
      | false =>
        have hr2 : Hid (v = false) := Lib.hid (by rw [hres.out, he.out, hst.out, struckOk, hi]; rfl)
        replace hi := Lib.hid hi
        go_wp2_with fail
        refine (in_spec hi.out _).mono ?_
        rintro e w' ⟨rfl, rfl⟩
        go_wp2
        go_ret
        exact ⟨ret_bo hr2.out.symm, hbw⟩
      | true =>
        cases hl : isLet x.letter with
        | true =>
          have hnx : Hid (xs.all struckOk = (xs.drop (k + 1)).all struckOk) := Lib.hid (by rw [he.out, hst.out, struckOk, hi, hl]; rfl)
          replace hi := Lib.hid hi
          replace hl := Lib.hid hl
          go_wp2_with fail
          refine (in_spec hi.out _).mono ?_
          rintro e w' ⟨rfl, rfl⟩
          go_wp2_with fail
          refine (letter_spec x.letter true hl.out _ hgx.2).mono ?_
          rintro e w' ⟨rfl, rfl⟩
          go_wp2
          go_roundw
          case rel => exact ⟨k + 1, by omega, by go_num, hbw, hnx.out⟩
          case measure => simp [intOf]; omega
        | false =>
          have hr2 : Hid (v = false) := Lib.hid (by rw [hres.out, he.out, hst.out, struckOk, hi, hl]; rfl)
          replace hi := Lib.hid hi
          replace hl := Lib.hid hl
          go_wp2_with fail
          refine (in_spec hi.out _).mono ?_
          rintro e w' ⟨rfl, rfl⟩
          go_wp2_with fail
          refine (letter_spec x.letter false hl.out _ hgx.2).mono ?_
          rintro e w' ⟨rfl, rfl⟩
          go_wp2
          go_ret
          exact ⟨ret_bo hr2.out.symm, hbw⟩
    · obtain rfl : k = n := by omega
      have hr2 : Hid (v = decide ((k : Int) ≤ 200)) := Lib.hid (by rw [hres.out, he.out, all_end h.1, Bool.true_and])
      go_wp2
      go_ret
      exact ⟨ret_bo hr2.out.symm, hbw⟩
set_option maxRecDepth 100000 in
theorem wrongStruck_impl (x : StruckD) (w : World) (hg : x.good) {v : Bool} (hv : struckOk x = v) :
    Calls Try.prog 33 #[.agg #[.int .i64 x.place, .string x.letter]] w fun e w' => e = .returned (.bool (!v)) ∧ Below w.heap.size w w' := by
  obtain ⟨place, letter⟩ := x
  have hg2 := Lib.hid hg.2
  cases hi : isIn place 0 300 with
  | false =>
    have hr : Hid (v = false) := Lib.hid (by rw [← hv]; simp [struckOk, hi])
    replace hi := Lib.hid hi
    clear hv hg
    go_enter Try.func33, Try.ntmps33
    go_wp2_with fail
    refine (in_impl hi.out _).mono ?_
    rintro e w' ⟨rfl, rfl⟩
    go_wp2
    go_ret
    exact ⟨by rw [hr.out]; rfl, below_a1 _ _⟩
  | true =>
    have hr : Hid (isLet letter = v) := Lib.hid (by rw [← hv]; simp [struckOk, hi])
    replace hi := Lib.hid hi
    clear hv hg
    go_enter Try.func33, Try.ntmps33
    go_wp2_with fail
    refine (in_impl hi.out _).mono ?_
    rintro e w' ⟨rfl, rfl⟩
    go_wp2_with fail
    refine (isLetter_any letter v hr.out _ hg2.out).mono ?_
    rintro e w' ⟨rfl, rfl⟩
    go_wp2
    go_ret
    exact ⟨rfl, below_a1 _ _⟩

set_option maxRecDepth 100000 in
set_option maxHeartbeats 1600000 in
theorem idx_wrongStruck (p : StruckD → Bool) (A : Option Addr) (n c : Nat) (xs : List StruckD) (w : World) (h : Strucks w A n xs) (hn : n ≤ 1048576)
    (hcl : ∀ x ∈ xs, ∀ W, Calls Try.prog 33 #[.agg #[.int .i64 x.place, .string x.letter]] W fun e w' => e = .returned (.bool (p x)) ∧ Below W.heap.size W w') :
    Calls Try.prog 36 #[.slice A n c, .func (.func 33) #[] #[]] w fun e w' => (∃ i : Int, e = .returned (.int .i64 i) ∧ decide (0 ≤ i) = xs.any p) ∧ Below w.heap.size w w' := by
  replace hcl := Lib.hid hcl
  go_enter Try.func36, Try.ntmps36
  go_wp2
  go_loopw [8] (fun i wr => ∃ k : Nat, k ≤ n ∧ i = .int .i64 k ∧ Below w.heap.size w wr ∧ xs.any p = (xs.drop k).any p) (fun i _ => n - (intOf i).toNat)
  case atStart => exact ⟨0, by omega, rfl, Below.refl _ _, rfl⟩
  case round =>
    obtain ⟨k, hk, rfl, hbw, he⟩ := hrel
    replace he := Lib.hid he
    by_cases hlt : k < n
    · obtain ⟨bb, off, x, rfl, hb', hx, c0, c1⟩ := struck_at (h.below hbw) hlt
      have hk0 : (0 : Int) ≤ (k : Int) := Int.natCast_nonneg _
      have hk1 : (k : Int) < (n : Int) := by omega
      have hst := Lib.hid (any_drop1 (p := p) hx.out)
      have hc := hcl.out x (List.mem_of_getElem? hx.out) wr
      cases h1 : p x with
      | true =>
        have hr : Hid (xs.any p = true) := Lib.hid (by rw [he.out, hst.out, h1]; rfl)
        rw [h1] at hc
        replace hc := Lib.hid hc
        clear h1
        go_wp2_with fail
        refine (hc.out).mono ?_
        rintro e w1 ⟨rfl, hb1⟩
        go_wp2
        go_ret
        exact ⟨⟨_, rfl, by rw [hr.out]; simp⟩, hbw.step hb1⟩
      | false =>
        have hnx : Hid (xs.any p = (xs.drop (k + 1)).any p) := Lib.hid (by rw [he.out, hst.out, h1]; rfl)
        rw [h1] at hc
        replace hc := Lib.hid hc
        clear h1
        go_wp2_with fail
        refine (hc.out).mono ?_
        rintro e w1 ⟨rfl, hb1⟩
        go_wp2
        go_roundw
        case rel => exact ⟨k + 1, by omega, by go_num, hbw.step hb1, hnx.out⟩
        case measure => simp [intOf]; omega
    · obtain rfl : k = n := by omega
      have hr : Hid (xs.any p = false) := Lib.hid (by rw [he.out, any_end1 h.1])
      go_wp2
      go_ret
      exact ⟨⟨_, rfl, by rw [hr.out]; rfl⟩, hbw⟩
theorem has_wrongStruck (p : StruckD → Bool) (A : Option Addr) (n c : Nat) (xs : List StruckD) (w : World) (h : Strucks w A n xs) (hn : n ≤ 1048576)
    (hcl : ∀ x ∈ xs, ∀ W, Calls Try.prog 33 #[.agg #[.int .i64 x.place, .string x.letter]] W fun e w' => e = .returned (.bool (p x)) ∧ Below W.heap.size W w') (v : Bool) (hv : xs.any p = v) :
    Calls Try.prog 22 #[.slice A n c, .func (.func 33) #[] #[]] w fun e w' => e = .returned (.bool v) ∧ Below w.heap.size w w' := by
  have hi := idx_wrongStruck p A n c xs w h hn hcl
  rw [hv] at hi
  replace hi := Lib.hid hi
  clear hcl
  go_enter Try.func22, Try.ntmps22
  go_wp2_with fail
  refine (hi.out).mono ?_
  rintro e w1 ⟨⟨i, rfl, hiv⟩, hb1⟩
  replace hiv := Lib.hid hiv
  go_wp2
  go_ret
  exact ⟨ret_bo hiv.out, hb1⟩

theorem line_impl (A : Option Addr) (n c : Nat) (xs : List StruckD) (w : World) (h : Strucks w A n xs) (hn : n ≤ 1048576) (hx : ∀ x ∈ xs, x.good) {v : Bool} (hv : lineOk xs = v) :
    Calls Try.prog 18 #[.slice A n c] w fun e w' => e = .returned (.bool v) ∧ Below w.heap.size w w' := by
  by_cases hlen : (n : Int) ≤ 200
  · have g1 : decide ((n : Int) ≤ 200) = true := decide_eq_true hlen
    have hc := Lib.hid (has_wrongStruck (fun x => !struckOk x) A n c xs w h hn (fun x hm W => wrongStruck_impl x W (hx x hm) rfl) (!v) (by rw [any_not_all, ← hv, lineOk, h.1, decide_eq_true (by omega), Bool.and_true]))
    clear hx hv
    go_enter Try.func18, Try.ntmps18
    go_wp2_with fail
    refine hc.out.mono ?_
    rintro e w1 ⟨rfl, hb1⟩
    go_wp2
    go_ret
    exact ⟨ret_bo (by simp), hb1⟩
  · have g1 : decide ((n : Int) ≤ 200) = false := decide_eq_false hlen
    have hr : Hid (v = false) := Lib.hid (by rw [← hv, lineOk, h.1, decide_eq_false (by omega), Bool.and_false])
    clear hx hv
    go_enter Try.func18, Try.ntmps18
    go_wp2
    go_ret
    exact ⟨ret_bo hr.out.symm, Below.refl _ _⟩

theorem neq_struck (x y : StruckD) (w : World) : (binOp .neq 41 (.agg #[.int .i64 x.place, .string x.letter]) (.agg #[.int .i64 y.place, .string y.letter])).run Try.prog w = .ok (.bool (!x.eqB y)) w := by
  have hS : Try.prog.underlying 41 = some (.struct (Try.prog.fieldsOf 41)) := by kernel_rfl
  have hp : Try.prog.stoodInHeld 41 = false := by kernel_rfl
  rw [run_neq_struct, show (10000 : Nat) = 9999 + 1 from rfl, run_equalIn_agg w 9999 41 _ _ hS hp]
  simp only [Program.fieldsOf, Try.underlying41]
  have u2 := Try.underlying2
  have u4 := Try.underlying9
  obtain ⟨a, s⟩ := x
  obtain ⟨b, t⟩ := y
  go_simp
  by_cases h1 : a = b <;> by_cases h2 : s.toList = t.toList <;> simp [h1, h2, StruckD.eqB]

set_option maxRecDepth 100000 in
set_option maxHeartbeats 1600000 in
theorem same_spec (A : Option Addr) (n c : Nat) (ps : List StruckD) (B : Option Addr) (m d : Nat) (qs : List StruckD) (w : World) (hA : Strucks w A n ps) (hn : n ≤ 1048576) (hgp : ∀ x ∈ ps, x.good) (hB : Strucks w B m qs) (hm : m ≤ 1048576) (hgq : ∀ x ∈ qs, x.good) :
    Calls Try.prog 15 #[.slice A n c, .slice B m d] w fun e w' => e = .returned (.bool (eqStrucks ps qs)) ∧ Below w.heap.size w w' := by
  clear hgp hgq
  by_cases hl : n = m
  · subst hl
    go_enter Try.func15, Try.ntmps15
    go_wp2
    go_loopw [5] (fun i wr => ∃ k : Nat, k ≤ n ∧ i = .int .i64 k ∧ Below w.heap.size w wr ∧ eqStrucks ps qs = eqStrucks (ps.drop k) (qs.drop k)) (fun i _ => n - (intOf i).toNat)
    case atStart => exact ⟨0, by omega, rfl, Below.refl _ _, rfl⟩
    case round =>
      obtain ⟨k, hk, rfl, hbw, he⟩ := hrel
      replace he := Lib.hid he
      by_cases hlt : k < n
      · obtain ⟨b, off, x, rfl, hb, hx, c0, c1⟩ := struck_at (hA.below hbw) hlt
        obtain ⟨b', off', y, rfl, hb', hy, d0, d1⟩ := struck_at (hB.below hbw) hlt
        have hk0 : (0 : Int) ≤ (k : Int) := Int.natCast_nonneg _
        have hk1 : (k : Int) < (n : Int) := by omega
        by_cases hq : x.eqB y = true
        · have hnext := Lib.hid (eqStrucks_step hx.out hy.out hq)
          have hneq : ∀ W, (binOp .neq 41 (.agg #[.int .i64 x.place, .string x.letter]) (.agg #[.int .i64 y.place, .string y.letter])).run Try.prog W = .ok (.bool false) W := fun W => by rw [neq_struck, hq]; rfl
          clear hq
          go_wp2_with fail
          go_quiet (fail)
          go_wp2
          go_roundw
          case rel => exact ⟨k + 1, by omega, by go_num, below_drewN hbw _, he.out.trans hnext.out⟩
          case measure => simp [intOf]; omega
        · have hq' : x.eqB y = false := by simpa using hq
          have hres := Lib.hid (eqStrucks_stop hx.out hy.out hq')
          have hneq : ∀ W, (binOp .neq 41 (.agg #[.int .i64 x.place, .string x.letter]) (.agg #[.int .i64 y.place, .string y.letter])).run Try.prog W = .ok (.bool true) W := fun W => by rw [neq_struck, hq']; rfl
          clear hq hq'
          go_wp2_with fail
          go_quiet (fail)
          go_wp2
          go_ret
          exact ⟨ret_bo (hres.out ▸ he.out.symm), below_drewN hbw _⟩
      · obtain rfl : k = n := by omega
        have hres := Lib.hid (eqStrucks_end hA.1 hB.1)
        go_wp2
        go_ret
        exact ⟨ret_bo (hres.out ▸ he.out.symm), hbw⟩
  · have hl' : ((n : Int) == (m : Int)) = false := beq_eq_false_iff_ne.2 (by omega)
    have hres := Lib.hid (eqStrucks_len (ps := ps) (qs := qs) (by rw [hA.1, hB.1]; exact hl))
    clear hl
    go_enter Try.func15, Try.ntmps15
    go_wp2
    go_ret
    exact ⟨ret_bo hres.out.symm, Below.refl _ _⟩

set_option maxRecDepth 100000 in
set_option maxHeartbeats 1600000 in
theorem same_impl (A : Option Addr) (n c : Nat) (ps : List StruckD) (B : Option Addr) (m d : Nat) (qs : List StruckD) (w : World) (hA : Strucks w A n ps) (hn : n ≤ 1048576) (hgp : ∀ x ∈ ps, x.good) (hB : Strucks w B m qs) (hm : m ≤ 1048576) (hgq : ∀ x ∈ qs, x.good) :
    Calls Try.prog 14 #[.slice A n c, .slice B m d] w fun e w' => e = .returned (.bool (eqStrucks ps qs)) ∧ Below w.heap.size w w' := by
  clear hgp hgq
  by_cases hl : n = m
  · subst hl
    go_enter Try.func14, Try.ntmps14
    go_wp2
    go_loopw [14] (fun i wr => ∃ k : Nat, k ≤ n ∧ i = .int .i64 k ∧ Below w.heap.size w wr ∧ eqStrucks ps qs = eqStrucks (ps.drop k) (qs.drop k)) (fun i _ => n - (intOf i).toNat)
    case atStart => exact ⟨0, by omega, rfl, Below.refl _ _, rfl⟩
    case round =>
      obtain ⟨k, hk, rfl, hbw, he⟩ := hrel
      replace he := Lib.hid he
      by_cases hlt : k < n
      · obtain ⟨b, off, x, rfl, hb, hx, c0, c1⟩ := struck_at (hA.below hbw) hlt
        obtain ⟨b', off', y, rfl, hb', hy, d0, d1⟩ := struck_at (hB.below hbw) hlt
        have hk0 : (0 : Int) ≤ (k : Int) := Int.natCast_nonneg _
        have hk1 : (k : Int) < (n : Int) := by omega
        by_cases hq : x.eqB y = true
        · have hnext := Lib.hid (eqStrucks_step hx.out hy.out hq)
          have hneq : ∀ W, (binOp .neq 41 (.agg #[.int .i64 x.place, .string x.letter]) (.agg #[.int .i64 y.place, .string y.letter])).run Try.prog W = .ok (.bool false) W := fun W => by rw [neq_struck, hq]; rfl
          clear hq
          go_wp2_with fail
          go_quiet (fail)
          go_wp2
          go_roundw
          case rel => exact ⟨k + 1, by omega, by go_num, below_drewN (hbw.step (below_a1 _ _)) _, he.out.trans hnext.out⟩
          case measure => simp [intOf]; omega
        · have hq' : x.eqB y = false := by simpa using hq
          have hres := Lib.hid (eqStrucks_stop hx.out hy.out hq')
          have hneq : ∀ W, (binOp .neq 41 (.agg #[.int .i64 x.place, .string x.letter]) (.agg #[.int .i64 y.place, .string y.letter])).run Try.prog W = .ok (.bool true) W := fun W => by rw [neq_struck, hq']; rfl
          clear hq hq'
          go_wp2_with fail
          go_quiet (fail)
          go_wp2
          go_ret
          exact ⟨ret_bo (hres.out ▸ he.out.symm), below_drewN (hbw.step (below_a1 _ _)) _⟩
      · obtain rfl : k = n := by omega
        have hres := Lib.hid (eqStrucks_end hA.1 hB.1)
        go_wp2
        go_ret
        exact ⟨ret_bo (hres.out ▸ he.out.symm), hbw⟩
  · have hl' : ((n : Int) == (m : Int)) = false := beq_eq_false_iff_ne.2 (by omega)
    have hres := Lib.hid (eqStrucks_len (ps := ps) (qs := qs) (by rw [hA.1, hB.1]; exact hl))
    clear hl
    go_enter Try.func14, Try.ntmps14
    go_wp2
    go_ret
    exact ⟨ret_bo hres.out.symm, Below.refl _ _⟩
end Go.Proofs.Ytphhpmnigchooaa
