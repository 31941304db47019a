/- Acts: whether acts are valid: the model's function and the program's. -/
import Derived.Test.YtphhpmnigchooaaCar1
namespace Go.Proofs.Ytphhpmnigchooaa
open Go.RowKit Go.ChangeShapes Go.WideShapes Go.Deep
set_option linter.unusedVariables false
set_option linter.unusedSimpArgs false

theorem letter_none {s : ByteArray} (h : s.size = 0) : s.toList.isEmpty = true := by
  rw [ByteArray.toList_eq]
  have : s.data.toList.length = 0 := h
  rw [List.length_eq_zero_iff.1 this]
  rfl
theorem letter_some {s : ByteArray} (h : ¬ s.size = 0) : s.toList.isEmpty = false := by
  rw [ByteArray.toList_eq]
  have : ¬ s.data.toList.length = 0 := h
  cases hl : s.data.toList with
  | nil => rw [hl] at this; exact absurd rfl this
  | cons a l => rfl
set_option maxRecDepth 100000 in
set_option maxHeartbeats 1600000 in
theorem acts_spec (A : Option Addr) (n c : Nat) (xs : List ActD) (w : World) (h : Acts w A n xs) (hn : n ≤ 1048576) (hx : ∀ x ∈ xs, x.good) :
    Calls Try.prog 41 #[.slice A n c] w fun e w' => e = .returned (.bool (actsOk xs)) ∧ Below w.heap.size w w' := by
  generalize hv : actsOk xs = v
  replace hx := Lib.hid hx
  have hres : Hid (v = (xs.all actOk && decide ((n : Int) ≤ 200))) := Lib.hid (by
    rw [← hv, actsOk, h.1]
    congr 1
    exact decide_eq_decide.2 (by omega))
  clear hv
  go_enter Try.func41, Try.ntmps41
  go_wp2
  go_loopw [3] (fun i wr => ∃ k : Nat, k ≤ n ∧ i = .int .i64 k ∧ Below w.heap.size w wr ∧ xs.all actOk = (xs.drop k).all actOk) (fun i _ => n - (intOf i).toNat)
  case atStart => exact ⟨0, by omega, rfl, Below.refl _ _, rfl⟩
  case round =>
    obtain ⟨k, hk, rfl, hbw, he⟩ := hrel
    replace he := Lib.hid he
    by_cases hlt : k < n
    · obtain ⟨b, off, x, rfl, hb, hxs, c0, c1⟩ := act_at (h.below hbw) hlt
      have hst := Lib.hid (all_drop (p := actOk) hxs.out)
      have hgx := hx.out x (List.mem_of_getElem? hxs.out)
      have hk0 : (0 : Int) ≤ (k : Int) := Int.natCast_nonneg _
      have hk1 : (k : Int) < (n : Int) := by omega
      by_cases hkd : x.kind = 0
      · have g0 : (x.kind == 0) = true := by simpa using hkd
        have hak : Hid (actOk x = isLet x.letter) := Lib.hid (by simp [actOk, hkd])
        cases hl : isLet x.letter with
        | true =>
          have hnx : Hid (xs.all actOk = (xs.drop (k + 1)).all actOk) := Lib.hid (by rw [he.out, hst.out, hak.out, hl]; rfl)
          replace hl := Lib.hid hl
          clear hkd
          go_wp2_with fail
          refine (letter_spec x.letter true hl.out _ hgx.2).mono ?_
          rintro e w' ⟨rfl, rfl⟩
          go_wp2
          go_roundw
          case rel => exact ⟨k + 1, by omega, by go_num, hbw, hnx.out⟩
          case measure => simp [intOf]; omega
        | false =>
          have hr2 : Hid (v = false) := Lib.hid (by rw [hres.out, he.out, hst.out, hak.out, hl]; rfl)
          replace hl := Lib.hid hl
          clear hkd
          go_wp2_with fail
          refine (letter_spec x.letter false hl.out _ hgx.2).mono ?_
          rintro e w' ⟨rfl, rfl⟩
          go_wp2
          go_ret
          exact ⟨ret_bo hr2.out.symm, hbw⟩
      · have g0 : (x.kind == 0) = false := by simpa using hkd
        have hak : Hid (actOk x = (isIn x.kind 1 5 && decide (x.letter.size = 0))) := Lib.hid (by simp [actOk, hkd])
        cases hi : isIn x.kind 1 5 with
        | false =>
          have hr2 : Hid (v = false) := Lib.hid (by rw [hres.out, he.out, hst.out, hak.out, hi]; rfl)
          replace hi := Lib.hid hi
          clear hkd
          go_wp2_with fail
          refine (in_spec hi.out _).mono ?_
          rintro e w' ⟨rfl, rfl⟩
          go_wp2
          go_ret
          exact ⟨ret_bo hr2.out.symm, hbw⟩
        | true =>
          by_cases hz : x.letter.size = 0
          · have hnx : Hid (xs.all actOk = (xs.drop (k + 1)).all actOk) := Lib.hid (by rw [he.out, hst.out, hak.out, hi, decide_eq_true hz]; rfl)
            have e0 := letter_none hz
            replace hi := Lib.hid hi
            clear hkd
            go_wp2_with fail
            refine (in_spec hi.out _).mono ?_
            rintro e w' ⟨rfl, rfl⟩
            go_wp2
            go_roundw
            case rel => exact ⟨k + 1, by omega, by go_num, hbw, hnx.out⟩
            case measure => simp [intOf]; omega
          · have hr2 : Hid (v = false) := Lib.hid (by rw [hres.out, he.out, hst.out, hak.out, hi, decide_eq_false hz]; rfl)
            have e0 := letter_some hz
            replace hi := Lib.hid hi
            clear hkd
            go_wp2_with fail
            refine (in_spec hi.out _).mono ?_
            rintro e w' ⟨rfl, rfl⟩
            go_wp2
            go_ret
            exact ⟨ret_bo hr2.out.symm, hbw⟩
    · obtain rfl : k = n := by omega
      have hr2 : Hid (v = decide ((k : Int) ≤ 200)) := Lib.hid (by rw [hres.out, he.out, all_end h.1, Bool.true_and])
      go_wp2
      go_ret
      exact ⟨ret_bo hr2.out.symm, hbw⟩
theorem any_drop1 {α : Type} {p : α → Bool} {l : List α} {k : Nat} {x : α} (h : l[k]? = some x) : (l.drop k).any p = (p x || (l.drop (k + 1)).any p) := by
  obtain ⟨h1, rfl⟩ := List.getElem?_eq_some_iff.1 h
  rw [List.drop_eq_getElem_cons h1, List.any_cons]
theorem any_end1 {α : Type} {p : α → Bool} {l : List α} {k : Nat} (h : l.length = k) : (l.drop k).any p = false := by
  rw [List.drop_of_length_le (by omega)]
  rfl
theorem any_not_all {α : Type} {p : α → Bool} : ∀ l : List α, (l.any fun x => !p x) = !l.all p
  | [] => rfl
  | a :: l => by rw [List.any_cons, List.all_cons, any_not_all l, Bool.not_and]
theorem vc_impl (x : CarriageD) (w : World) (hg : x.good) : Calls Try.prog 17 #[.agg #[.int .i64 x.left, .int .i64 x.right, .int .i64 x.bell]] w fun e w' => e = .returned (.bool (carOk x)) ∧ Below w.heap.size w w' := car_impl x rfl w
end Go.Proofs.Ytphhpmnigchooaa
