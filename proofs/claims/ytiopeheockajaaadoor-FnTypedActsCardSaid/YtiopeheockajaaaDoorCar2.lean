/- Acts: whether acts are valid: the model's function and the program's. -/
import Derived.Test.YtiopeheockajaaaDoorCar1
namespace Go.Proofs.YtiopeheockajaaaDoor
open Go.RowKit Go.ChangeShapes Go.WideShapes Go.Deep
set_option linter.unusedVariables false
set_option linter.unusedSimpArgs false

theorem letter_none {s : ByteArray} (h : s.size = 0) : s.toList.isEmpty = true := by
  rw [ByteArray.toList_eq]
  have : s.data.toList.length = 0 := h
  rw [List.length_eq_zero_iff.1 this]
  rfl
theorem letter_some {s : ByteArray} (h : ¬ s.size = 0) : s.toList.isEmpty = false := by
  rw [ByteArray.toList_eq]
  have : ¬ s.data.toList.length = 0 := h
  cases hl : s.data.toList with
  | nil => rw [hl] at this; exact absurd rfl this
  | cons a l => rfl
set_option maxRecDepth 100000 in
set_option maxHeartbeats 1600000 in
theorem acts_spec (A : Option Addr) (n c : Nat) (xs : List ActD) (w : World) (h : Acts w A n xs) (hn : n ≤ 1048576) (hx : ∀ x ∈ xs, x.good) :
    Calls Tryd.prog 45 #[.slice A n c] w fun e w' => e = .returned (.bool (actsOk xs)) ∧ Below w.heap.size w w' := by
  generalize hv : actsOk xs = v
  replace hx := Lib.hid hx
  have hres : Hid (v = (xs.all actOk && decide ((n : Int) ≤ 200))) := Lib.hid (by
    rw [← hv, actsOk, h.1]
    congr 1
    exact decide_eq_decide.2 (by omega))
  clear hv
  go_enter Tryd.func45, Tryd.ntmps45
  go_wp2
  go_loopw [3] (fun i wr => ∃ k : Nat, k ≤ n ∧ i = .int .i64 k ∧ Below w.heap.size w wr ∧ xs.all actOk = (xs.drop k).all actOk) (fun i _ => n - (intOf i).toNat)
  case atStart => exact ⟨0, by omega, rfl, Below.refl _ _, rfl⟩
  case round =>
    obtain ⟨k, hk, rfl, hbw, he⟩ := hrel
    replace he := Lib.hid he
    by_cases hlt : k < n
    · obtain ⟨b, off, x, rfl, hb, hxs, c0, c1⟩ := act_at (h.below hbw) hlt
      have hst := Lib.hid (all_drop (p := actOk) hxs.out)
      have hgx := hx.out x (List.mem_of_getElem? hxs.out)
      have hk0 : (0 : Int) ≤ (k : Int) := Int.natCast_nonneg _
      have hk1 : (k : Int) < (n : Int) := by omega
      by_cases hkd : x.kind = 0
      · have g0 : (x.kind == 0) = true := by simpa using hkd
        have hak : Hid (actOk x = isLet x.letter) := Lib.hid (by simp [actOk, hkd])
        cases hl : isLet x.letter with
        | true =>
          have hnx : Hid (xs.all actOk = (xs.drop (k + 1)).all actOk) := Lib.hid (by rw [he.out, hst.out, hak.out, hl]; rfl)
          replace hl := Lib.hid hl
          clear hkd
          go_wp2_with fail
          refine (letter_spec x.letter true hl.out _ hgx.2).mono ?_
          rintro e w' ⟨rfl, rfl⟩
          go_wp2
          go_roundw
          case rel => exact ⟨k + 1, by omega, by go_num, hbw, hnx.out⟩
          case measure => simp [intOf]; omega
        | false =>
          have hr2 : Hid (v = false) := Lib.hid (by rw [hres.out, he.out, hst.out, hak.out, hl]; rfl)
          replace hl := Lib.hid hl
          clear hkd
          go_wp2_with fail
          refine (letter_spec x.letter false hl.out _ hgx.2).mono ?_
          rintro e w' ⟨rfl, rfl⟩
          go_wp2
          go_ret
          exact ⟨ret_bo hr2.out.symm, hbw⟩
      · have g0 : (x.kind == 0) = false := by simpa using hkd
        have hak : Hid (actOk x = (isIn x.kind 1 5 && decide (x.letter.size = 0))) := Lib.hid (by simp [actOk, hkd])
        cases hi : isIn x.kind 1 5 with
        | false =>
          have hr2 : Hid (v = false) := Lib.hid (by rw [hres.out, he.out, hst.out, hak.out, hi]; rfl)
          replace hi := Lib.hid hi
          clear hkd
          go_wp2_with fail
          refine (in_spec hi.out _).mono ?_
          rintro e w' ⟨rfl, rfl⟩
          go_wp2
          go_ret
          exact ⟨ret_bo hr2.out.symm, hbw⟩
        | true =>
          by_cases hz : x.letter.size = 0
          · have hnx : Hid (xs.all actOk = (xs.drop (k + 1)).all actOk) := Lib.hid (by rw [he.out, hst.out, hak.out, hi, decide_eq_true hz]; rfl)
            have e0 := letter_none hz
            replace hi := Lib.hid hi
            clear hkd
            go_wp2_with fail
            refine (in_spec hi.out _).mono ?_
            rintro e w' ⟨rfl, rfl⟩
            go_wp2
            go_roundw
            case rel => exact ⟨k + 1, by omega, by go_num, hbw, hnx.out⟩
            case measure => simp [intOf]; omega
          · have hr2 : Hid (v = false) := Lib.hid (by rw [hres.out, he.out, hst.out, hak.out, hi, decide_eq_false hz]; rfl)
            have e0 := letter_some hz
            replace hi := Lib.hid hi
            clear hkd
            go_wp2_with fail
            refine (in_spec hi.out _).mono ?_
            rintro e w' ⟨rfl, rfl⟩
            go_wp2
            go_ret
            exact ⟨ret_bo hr2.out.symm, hbw⟩
    · obtain rfl : k = n := by omega
      have hr2 : Hid (v = decide ((k : Int) ≤ 200)) := Lib.hid (by rw [hres.out, he.out, all_end h.1, Bool.true_and])
      go_wp2
      go_ret
      exact ⟨ret_bo hr2.out.symm, hbw⟩
theorem any_drop1 {α : Type} {p : α → Bool} {l : List α} {k : Nat} {x : α} (h : l[k]? = some x) : (l.drop k).any p = (p x || (l.drop (k + 1)).any p) := by
  obtain ⟨h1, rfl⟩ := List.getElem?_eq_some_iff.1 h
  rw [List.drop_eq_getElem_cons h1, List.any_cons]
theorem any_end1 {α : Type} {p : α → Bool} {l : List α} {k : Nat} (h : l.length = k) : (l.drop k).any p = false := by
  rw [List.drop_of_length_le (by omega)]
  rfl
theorem any_not_all {α : Type} {p : α → Bool} : ∀ l : List α, (l.any fun x => !p x) = !l.all p
  | [] => rfl
  | a :: l => by rw [List.any_cons, List.all_cons, any_not_all l, Bool.not_and]
set_option maxRecDepth 100000 in
theorem wrongAct_impl (x : ActD) (w : World) (hg : x.good) {v : Bool} (hv : actOk x = v) :
    Calls Tryd.prog 47 #[.agg #[.int .i64 x.kind, .string x.letter]] w fun e w' => e = .returned (.bool (!v)) ∧ Below w.heap.size w w' := by
  obtain ⟨kind, letter⟩ := x
  have hg2 := Lib.hid hg.2
  by_cases hkd : kind = 0
  · have g0 : (kind == 0) = true := by simpa using hkd
    have hak : Hid (isLet letter = v) := Lib.hid (by rw [← hv]; simp [actOk, hkd])
    clear hkd hv hg
    go_enter Tryd.func47, Tryd.ntmps47
    go_wp2_with fail
    refine (isLetter_any letter v hak.out _ hg2.out).mono ?_
    rintro e w' ⟨rfl, rfl⟩
    go_wp2
    go_ret
    exact ⟨rfl, below_a1 _ _⟩
  · have g0 : (kind == 0) = false := by simpa using hkd
    cases hi : isIn kind 1 5 with
    | false =>
      have hr : Hid (v = false) := Lib.hid (by rw [← hv]; simp [actOk, hkd, hi])
      replace hi := Lib.hid hi
      clear hkd hv hg
      go_enter Tryd.func47, Tryd.ntmps47
      go_wp2_with fail
      refine (in_impl hi.out _).mono ?_
      rintro e w' ⟨rfl, rfl⟩
      go_wp2
      go_ret
      exact ⟨by rw [hr.out]; rfl, below_a1 _ _⟩
    | true =>
      by_cases hz : letter.size = 0
      · have hr : Hid (v = true) := Lib.hid (by rw [← hv]; simp [actOk, hkd, hi, hz])
        have e0 := letter_none hz
        replace hi := Lib.hid hi
        clear hkd hv hg
        go_enter Tryd.func47, Tryd.ntmps47
        go_wp2_with fail
        refine (in_impl hi.out _).mono ?_
        rintro e w' ⟨rfl, rfl⟩
        go_wp2
        go_ret
        exact ⟨by rw [hr.out]; rfl, below_a1 _ _⟩
      · have hr : Hid (v = false) := Lib.hid (by rw [← hv]; simp [actOk, hkd, hi, hz])
        have e0 := letter_some hz
        replace hi := Lib.hid hi
        clear hkd hv hg
        go_enter Tryd.func47, Tryd.ntmps47
        go_wp2_with fail
        refine (in_impl hi.out _).mono ?_
        rintro e w' ⟨rfl, rfl⟩
        go_wp2
        go_ret
        exact ⟨by rw [hr.out]; rfl, below_a1 _ _⟩

set_option maxRecDepth 100000 in
set_option maxHeartbeats 1600000 in
theorem idx_wrongAct (p : ActD → Bool) (A : Option Addr) (n c : Nat) (xs : List ActD) (w : World) (h : Acts w A n xs) (hn : n ≤ 1048576)
    (hcl : ∀ x ∈ xs, ∀ W, Calls Tryd.prog 47 #[.agg #[.int .i64 x.kind, .string x.letter]] W fun e w' => e = .returned (.bool (p x)) ∧ Below W.heap.size W w') :
    Calls Tryd.prog 64 #[.slice A n c, .func (.func 47) #[] #[]] w fun e w' => (∃ i : Int, e = .returned (.int .i64 i) ∧ decide (0 ≤ i) = xs.any p) ∧ Below w.heap.size w w' := by
  replace hcl := Lib.hid hcl
  go_enter Tryd.func64, Tryd.ntmps64
  go_wp2
  go_loopw [8] (fun i wr => ∃ k : Nat, k ≤ n ∧ i = .int .i64 k ∧ Below w.heap.size w wr ∧ xs.any p = (xs.drop k).any p) (fun i _ => n - (intOf i).toNat)
  case atStart => exact ⟨0, by omega, rfl, Below.refl _ _, rfl⟩
  case round =>
    obtain ⟨k, hk, rfl, hbw, he⟩ := hrel
    replace he := Lib.hid he
    by_cases hlt : k < n
    · obtain ⟨bb, off, x, rfl, hb', hx, c0, c1⟩ := act_at (h.below hbw) hlt
      have hk0 : (0 : Int) ≤ (k : Int) := Int.natCast_nonneg _
      have hk1 : (k : Int) < (n : Int) := by omega
      have hst := Lib.hid (any_drop1 (p := p) hx.out)
      have hc := hcl.out x (List.mem_of_getElem? hx.out) wr
      cases h1 : p x with
      | true =>
        have hr : Hid (xs.any p = true) := Lib.hid (by rw [he.out, hst.out, h1]; rfl)
        rw [h1] at hc
        replace hc := Lib.hid hc
        clear h1
        go_wp2_with fail
        refine (hc.out).mono ?_
        rintro e w1 ⟨rfl, hb1⟩
        go_wp2
        go_ret
        exact ⟨⟨_, rfl, by rw [hr.out]; simp⟩, hbw.step hb1⟩
      | false =>
        have hnx : Hid (xs.any p = (xs.drop (k + 1)).any p) := Lib.hid (by rw [he.out, hst.out, h1]; rfl)
        rw [h1] at hc
        replace hc := Lib.hid hc
        clear h1
        go_wp2_with fail
        refine (hc.out).mono ?_
        rintro e w1 ⟨rfl, hb1⟩
        go_wp2
        go_roundw
        case rel => exact ⟨k + 1, by omega, by go_num, hbw.step hb1, hnx.out⟩
        case measure => simp [intOf]; omega
    · obtain rfl : k = n := by omega
      have hr : Hid (xs.any p = false) := Lib.hid (by rw [he.out, any_end1 h.1])
      go_wp2
      go_ret
      exact ⟨⟨_, rfl, by rw [hr.out]; rfl⟩, hbw⟩
theorem has_wrongAct (p : ActD → Bool) (A : Option Addr) (n c : Nat) (xs : List ActD) (w : World) (h : Acts w A n xs) (hn : n ≤ 1048576)
    (hcl : ∀ x ∈ xs, ∀ W, Calls Tryd.prog 47 #[.agg #[.int .i64 x.kind, .string x.letter]] W fun e w' => e = .returned (.bool (p x)) ∧ Below W.heap.size W w') (v : Bool) (hv : xs.any p = v) :
    Calls Tryd.prog 46 #[.slice A n c, .func (.func 47) #[] #[]] w fun e w' => e = .returned (.bool v) ∧ Below w.heap.size w w' := by
  have hi := idx_wrongAct p A n c xs w h hn hcl
  rw [hv] at hi
  replace hi := Lib.hid hi
  clear hcl
  go_enter Tryd.func46, Tryd.ntmps46
  go_wp2_with fail
  refine (hi.out).mono ?_
  rintro e w1 ⟨⟨i, rfl, hiv⟩, hb1⟩
  replace hiv := Lib.hid hiv
  go_wp2
  go_ret
  exact ⟨ret_bo hiv.out, hb1⟩

theorem acts_impl (A : Option Addr) (n c : Nat) (xs : List ActD) (w : World) (h : Acts w A n xs) (hn : n ≤ 1048576) (hx : ∀ x ∈ xs, x.good) {v : Bool} (hv : actsOk xs = v) :
    Calls Tryd.prog 23 #[.slice A n c] w fun e w' => e = .returned (.bool v) ∧ Below w.heap.size w w' := by
  by_cases hlen : (n : Int) ≤ 200
  · have g1 : decide ((n : Int) ≤ 200) = true := decide_eq_true hlen
    have hc := Lib.hid (has_wrongAct (fun x => !actOk x) A n c xs w h hn (fun x hm W => wrongAct_impl x W (hx x hm) rfl) (!v) (by rw [any_not_all, ← hv, actsOk, h.1, decide_eq_true (by omega), Bool.and_true]))
    clear hx hv
    go_enter Tryd.func23, Tryd.ntmps23
    go_wp2_with fail
    refine hc.out.mono ?_
    rintro e w1 ⟨rfl, hb1⟩
    go_wp2
    go_ret
    exact ⟨ret_bo (by simp), hb1⟩
  · have g1 : decide ((n : Int) ≤ 200) = false := decide_eq_false hlen
    have hr : Hid (v = false) := Lib.hid (by rw [← hv, actsOk, h.1, decide_eq_false (by omega), Bool.and_false])
    clear hx hv
    go_enter Tryd.func23, Tryd.ntmps23
    go_wp2
    go_ret
    exact ⟨ret_bo hr.out.symm, Below.refl _ _⟩
theorem va_spec (A : Option Addr) (n c : Nat) (xs : List ActD) (w : World) (h : Acts w A n xs) (hn : n ≤ 1048576) (hx : ∀ x ∈ xs, x.good) :
    Calls Tryd.prog 24 #[.slice A n c] w fun e w' => e = .returned (.bool (actsOk xs)) ∧ Below w.heap.size w w' := by
  have hc := Lib.hid (acts_spec A n c xs w h hn hx)
  clear hx
  go_enter Tryd.func24, Tryd.ntmps24
  go_wp2_with fail
  refine hc.out.mono ?_
  rintro e w1 ⟨rfl, hb1⟩
  go_wp2
  go_ret
  exact ⟨rfl, hb1⟩
theorem va_impl (A : Option Addr) (n c : Nat) (xs : List ActD) (w : World) (h : Acts w A n xs) (hn : n ≤ 1048576) (hx : ∀ x ∈ xs, x.good) :
    Calls Tryd.prog 23 #[.slice A n c] w fun e w' => e = .returned (.bool (actsOk xs)) ∧ Below w.heap.size w w' := acts_impl A n c xs w h hn hx rfl
theorem vc_spec (x : CarriageD) (w : World) (hg : x.good) : Calls Tryd.prog 26 #[.agg #[.int .i64 x.left, .int .i64 x.right, .int .i64 x.bell]] w fun e w' => e = .returned (.bool (carOk x)) ∧ Below w.heap.size w w' := car_spec2 x rfl w
theorem vc_impl (x : CarriageD) (w : World) (hg : x.good) : Calls Tryd.prog 25 #[.agg #[.int .i64 x.left, .int .i64 x.right, .int .i64 x.bell]] w fun e w' => e = .returned (.bool (carOk x)) ∧ Below w.heap.size w w' := car_impl x rfl w
end Go.Proofs.YtiopeheockajaaaDoor
