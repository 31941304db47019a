/- The code of a basket and bars: the model's function and the program's, which asks slices.ContainsFunc. -/
import Derived.Test.YtfhlpojaldidpaaBarsB
import Derived.Test.YtfhlpojaldidpaaBarsS
import Derived.Test.YtfhlpojaldidpaaIntS
namespace Go.Proofs.Ytfhlpojaldidpaa
open Go.RowKit
set_option linter.unusedVariables false
set_option linter.unusedSimpArgs false

def lacksB (b : BasketD) (x : Int) : Bool := !hasBar b x
def codeOf (b : BasketD) (bars : List Int) : Int := if basketOk b = true then (if (decide (bars.length ≤ 60) && !bars.any (lacksB b)) = true then 0 else 2) else 1
theorem any_drop {α : Type} {p : α → Bool} {xs : List α} {k : Nat} {x : α} (hx : xs[k]? = some x) : (xs.drop k).any p = (p x || (xs.drop (k + 1)).any p) := by
  obtain ⟨h1, rfl⟩ := List.getElem?_eq_some_iff.1 hx
  rw [List.drop_eq_getElem_cons h1]
  rfl
theorem any_end {α : Type} {p : α → Bool} {xs : List α} {k : Nat} (h : xs.length = k) : (xs.drop k).any p = false := by
  rw [List.drop_of_length_le (by omega)]
  rfl
set_option maxRecDepth 100000 in
set_option maxHeartbeats 1600000 in
theorem idx_lacks (b : BasketD) (A : Option Addr) (n c : Nat) (xs : List Int) (w : World) (hb : basketOk b = true) (h : Ints w A n xs) (hn : n ≤ 1048576) :
    Calls Try.prog 144 #[.slice A n c, .func (.func 92) #[.agg #[.int .i64 b.bars, .int .i64 b.rise, .int .i64 b.fall, .int .i64 b.clear, .int .i64 b.near]] #[]] w fun e w' => (∃ i : Int, e = .returned (.int .i64 i) ∧ decide (0 ≤ i) = xs.any (lacksB b)) ∧ Below w.heap.size w w' := by
  have hl := fun m (v : Bool) (hv : hasBar b m = v) W => lacks_impl b m (v := v) hv hb W
  replace hl := Lib.hid hl
  clear hb
  go_enter Try.func144, Try.ntmps144
  go_wp2
  go_loopw [8] (fun i wr => ∃ k : Nat, k ≤ n ∧ i = .int .i64 k ∧ Below w.heap.size w wr ∧ xs.any (lacksB b) = (xs.drop k).any (lacksB b)) (fun i _ => n - (intOf i).toNat)
  case atStart => exact ⟨0, by omega, rfl, Below.refl _ _, rfl⟩
  case round =>
    obtain ⟨k, hk, rfl, hbw, he⟩ := hrel
    replace he := Lib.hid he
    by_cases hlt : k < n
    · obtain ⟨bb, off, x, rfl, hb', hx, c0⟩ := int_at (h.below hbw) hlt
      have hk0 : (0 : Int) ≤ (k : Int) := Int.natCast_nonneg _
      have hk1 : (k : Int) < (n : Int) := by omega
      have hst := Lib.hid (any_drop (p := lacksB b) hx.out)
      cases h1 : hasBar b x with
      | false =>
        have hr : Hid (xs.any (lacksB b) = true) := Lib.hid (by rw [he.out, hst.out]; simp [lacksB, h1])
        replace h1 := Lib.hid h1
        go_wp2_with fail
        refine (hl.out x false h1.out _).mono ?_
        rintro e w1 ⟨rfl, hb1⟩
        go_wp2
        go_ret
        exact ⟨⟨_, rfl, by rw [hr.out]; simp⟩, hbw.step hb1⟩
      | true =>
        have hnx : Hid (xs.any (lacksB b) = (xs.drop (k + 1)).any (lacksB b)) := Lib.hid (by rw [he.out, hst.out]; simp [lacksB, h1])
        replace h1 := Lib.hid h1
        go_wp2_with fail
        refine (hl.out x true h1.out _).mono ?_
        rintro e w1 ⟨rfl, hb1⟩
        go_wp2
        go_roundw
        case rel => exact ⟨k + 1, by omega, by go_num, hbw.step hb1, hnx.out⟩
        case measure => simp [intOf]; omega
    · obtain rfl : k = n := by omega
      have hr : Hid (xs.any (lacksB b) = false) := Lib.hid (by rw [he.out, any_end h.1])
      go_wp2
      go_ret
      exact ⟨⟨_, rfl, by rw [hr.out]; rfl⟩, hbw⟩
theorem has_lacks (b : BasketD) (A : Option Addr) (n c : Nat) (xs : List Int) (w : World) (hb : basketOk b = true) (h : Ints w A n xs) (hn : n ≤ 1048576) (v : Bool) (hv : xs.any (lacksB b) = v) :
    Calls Try.prog 91 #[.slice A n c, .func (.func 92) #[.agg #[.int .i64 b.bars, .int .i64 b.rise, .int .i64 b.fall, .int .i64 b.clear, .int .i64 b.near]] #[]] w fun e w' => e = .returned (.bool v) ∧ Below w.heap.size w w' := by
  have hi := idx_lacks b A n c xs w hb h hn
  rw [hv] at hi
  replace hi := Lib.hid hi
  clear hv hb h
  go_enter Try.func91, Try.ntmps91
  go_wp2_with fail
  refine (hi.out).mono ?_
  rintro e w1 ⟨⟨i, rfl, hd⟩, hb1⟩
  replace hd := Lib.hid hd
  go_wp2
  go_ret
  exact ⟨ret_bo hd.out, hb1⟩

set_option maxRecDepth 100000 in
set_option maxHeartbeats 1600000 in
theorem check_impl (b : BasketD) (A : Option Addr) (n c : Nat) (xs : List Int) (w : World) (h : Ints w A n xs) (hn : n ≤ 1048576) :
    Calls Try.prog 139 #[.agg #[.int .i64 b.bars, .int .i64 b.rise, .int .i64 b.fall, .int .i64 b.clear, .int .i64 b.near], .slice A n c] w fun e w' => e = .returned (.int .i64 (codeOf b xs)) ∧ Below w.heap.size w w' := by
  generalize hr : codeOf b xs = r
  replace hr := Lib.hid hr.symm
  have hmf : ∀ (fn : Fn) (first cap : Array Value) (w : World), (Instr.makeFunc fn first cap).run Try.prog w = .ok (.func fn first cap) w := fun _ _ _ _ => rfl
  cases hok : basketOk b with
  | false =>
    have hres : Hid (r = 1) := Lib.hid (by rw [hr.out, codeOf, hok]; rfl)
    have hc := fun W => ok_impl b hok W
    replace hc := Lib.hid hc
    clear hok hr
    go_enter Try.func139, Try.ntmps139
    go_wp2_with fail
    refine (hc.out _).mono ?_
    rintro e w1 ⟨rfl, hb1⟩
    go_wp2
    go_ret
    exact ⟨ret_i64 hres.out.symm, (below_a1 _ _).step hb1⟩
  | true =>
    have hc := fun W => ok_impl b hok W
    replace hc := Lib.hid hc
    by_cases hlen : (60 : Int) < (n : Int)
    · have hres : Hid (r = 2) := Lib.hid (by rw [hr.out, codeOf, if_pos hok, if_neg (by simp [show ¬ xs.length ≤ 60 by rw [h.1]; omega])])
      have g1 : decide ((60 : Int) < (n : Int)) = true := decide_eq_true hlen
      clear hok hr
      go_enter Try.func139, Try.ntmps139
      go_wp2_with fail
      refine (hc.out _).mono ?_
      rintro e w1 ⟨rfl, hb1⟩
      go_wp2
      go_ret
      exact ⟨ret_i64 hres.out.symm, (below_a1 _ _).step hb1⟩
    · have g1 : decide ((60 : Int) < (n : Int)) = false := decide_eq_false hlen
      obtain ⟨v, hv⟩ : ∃ v, xs.any (lacksB b) = v := ⟨_, rfl⟩
      have hcf := fun W (hW : Ints W A n xs) => has_lacks b A n c xs W hok hW hn v hv
      replace hcf := Lib.hid hcf
      have hres : Hid (r = if v = true then 2 else 0) := Lib.hid (by
        rw [hr.out, codeOf, if_pos hok, hv, decide_eq_true (show xs.length ≤ 60 by rw [h.1]; omega)]
        cases v <;> rfl)
      clear hok hr hv
      have hnew := fun W t => BoxB.new W b t
      replace hnew := Lib.hid hnew
      cases v with
      | false =>
        go_enter Try.func139, Try.ntmps139
        go_wp2_with fail
        refine (hc.out _).mono ?_
        rintro e w1 ⟨rfl, hb1⟩
        obtain ⟨d0, d1, d2, d3, d4⟩ := (hnew.out w _).step hb1
        have hb0 := Lib.hid ((below_a1 _ _).step hb1)
        clear hb1
        go_wp2_with fail
        refine (hcf.out _ (h.below hb0.out)).mono ?_
        rintro e w2 ⟨rfl, hb2⟩
        go_wp2
        go_ret
        exact ⟨ret_i64 hres.out.symm, hb0.out.step hb2⟩
      | true =>
        go_enter Try.func139, Try.ntmps139
        go_wp2_with fail
        refine (hc.out _).mono ?_
        rintro e w1 ⟨rfl, hb1⟩
        obtain ⟨d0, d1, d2, d3, d4⟩ := (hnew.out w _).step hb1
        have hb0 := Lib.hid ((below_a1 _ _).step hb1)
        clear hb1
        go_wp2_with fail
        refine (hcf.out _ (h.below hb0.out)).mono ?_
        rintro e w2 ⟨rfl, hb2⟩
        go_wp2
        go_ret
        exact ⟨ret_i64 hres.out.symm, hb0.out.step hb2⟩

set_option maxRecDepth 100000 in
set_option maxHeartbeats 1600000 in
theorem code_spec (b : BasketD) (A : Option Addr) (n c : Nat) (xs : List Int) (w : World) (h : Ints w A n xs) (hn : n ≤ 1048576) :
    Calls Try.prog 137 #[.agg #[.int .i64 b.bars, .int .i64 b.rise, .int .i64 b.fall, .int .i64 b.clear, .int .i64 b.near], .slice A n c] w fun e w' => e = .returned (.int .i64 (codeOf b xs)) ∧ Below w.heap.size w w' := by
  generalize hr : codeOf b xs = r
  replace hr := Lib.hid hr.symm
  cases hok : basketOk b with
  | false =>
    have hres : Hid (r = 1) := Lib.hid (by rw [hr.out, codeOf, hok]; rfl)
    have hc := fun W => ok_spec b hok W
    replace hc := Lib.hid hc
    clear hok hr
    go_enter Try.func137, Try.ntmps137
    go_wp2_with fail
    refine (hc.out _).mono ?_
    rintro e w1 ⟨rfl, hb1⟩
    go_wp2
    go_ret
    exact ⟨ret_i64 hres.out.symm, (below_a1 _ _).step hb1⟩
  | true =>
    have hc := fun W => ok_spec b hok W
    replace hc := Lib.hid hc
    have hl := fun m (v : Bool) (hv : hasBar b m = v) W => bar_spec b m (v := v) hv hok W
    replace hl := Lib.hid hl
    have hres : Hid (r = if (decide ((n : Int) ≤ 60) && !xs.any (lacksB b)) = true then 0 else 2) := Lib.hid (by
      rw [hr.out, codeOf, if_pos hok, h.1]
      congr 3
      exact decide_eq_decide.2 (by omega))
    clear hok hr
    have hnew := fun W t => BoxB.new W b t
    replace hnew := Lib.hid hnew
    go_enter Try.func137, Try.ntmps137
    go_wp2_with fail
    refine (hc.out _).mono ?_
    rintro e w1 ⟨rfl, hb1⟩
    have hbox := Lib.hid ((hnew.out w _).step hb1)
    have hb0 := (below_a1 _ _).step hb1
    have hS := h.below hb0
    have hl0 := h.1
    replace hb0 := Lib.hid hb0
    clear hb1 hnew hc h
    generalize hN : w.heap.size = N at *
    replace hN := Lib.hid hN
    go_wp2
    go_loopw [5] (fun i wr => ∃ k : Nat, k ≤ n ∧ i = .int .i64 k ∧ Below w1.heap.size w1 wr ∧ xs.any (lacksB b) = (xs.drop k).any (lacksB b)) (fun i _ => n - (intOf i).toNat)
    case atStart => exact ⟨0, by omega, rfl, Below.refl _ _, rfl⟩
    case round =>
      obtain ⟨k, hk, rfl, hbw, he⟩ := hrel
      replace he := Lib.hid he
      by_cases hlt : k < n
      · obtain ⟨bb, off, x, rfl, hb', hx, c0⟩ := int_at (hS.below hbw) hlt
        obtain ⟨d0, d1, d2, d3, d4⟩ := hbox.out.step hbw
        have hk0 : (0 : Int) ≤ (k : Int) := Int.natCast_nonneg _
        have hk1 : (k : Int) < (n : Int) := by omega
        have hst := Lib.hid (any_drop (p := lacksB b) hx.out)
        cases h1 : hasBar b x with
        | false =>
          have hr2 : Hid (r = 2) := Lib.hid (by rw [hres.out, he.out, hst.out]; simp [lacksB, h1])
          replace h1 := Lib.hid h1
          go_wp2_with fail
          refine wp_region_held_drew (S := fun w' => Below wr.heap.size wr w' ∧ w'.cell? ⟨N, 0, none⟩ = some (.int .i64 b.bars) ∧ w'.cell? ⟨N, 1, none⟩ = some (.int .i64 b.rise) ∧ w'.cell? ⟨N, 2, none⟩ = some (.int .i64 b.fall) ∧ w'.cell? ⟨N, 3, none⟩ = some (.int .i64 b.clear) ∧ w'.cell? ⟨N, 4, none⟩ = some (.int .i64 b.near) ∧ w'.cell? ⟨bb, off + k, none⟩ = some (.int .i64 x)) (by kernel_rfl) ?_ (fun hHeld => ?_)
          · exact ⟨(Below.refl _ _).drew, d0, d1, d2, d3, d4, c0⟩
          refine wpAnyH_take (i := 0) (v := ?va0) rfl (by kernel_rfl) (by kernel_rfl) (by kernel_rfl) (fun _ _ _ h => h) (Or.inl ⟨rfl, ?ya0⟩) (by assumption) ?_
          case ya0 => (intro w hSw; (try dsimp only at hSw); go_simp; first | done | with_reducible rfl)
          simp only [List.getElem_toArray, List.getElem_cons_succ, List.getElem_cons_zero, Act.put, List.setIfInBounds_toArray, List.set_cons_zero, List.set_cons_succ]
          refine wpAnyH_take (i := 1) (v := ?va1) rfl (by kernel_rfl) (by kernel_rfl) (by kernel_rfl) (fun _ _ _ h => h) (Or.inl ⟨rfl, ?ya1⟩) (by assumption) ?_
          case ya1 => (intro w hSw; (try dsimp only at hSw); go_simp; first | done | with_reducible rfl)
          simp only [List.getElem_toArray, List.getElem_cons_succ, List.getElem_cons_zero, Act.put, List.setIfInBounds_toArray, List.set_cons_zero, List.set_cons_succ]
          refine wpAnyH_take (i := 2) (v := ?va2) rfl (by kernel_rfl) (by kernel_rfl) (by kernel_rfl) (fun _ _ _ h => h) (Or.inl ⟨rfl, ?ya2⟩) (by assumption) ?_
          case ya2 => (intro w hSw; (try dsimp only at hSw); go_simp; first | done | with_reducible rfl)
          simp only [List.getElem_toArray, List.getElem_cons_succ, List.getElem_cons_zero, Act.put, List.setIfInBounds_toArray, List.set_cons_zero, List.set_cons_succ]
          refine wpAnyH_take (i := 3) (v := ?va3) rfl (by kernel_rfl) (by kernel_rfl) (by kernel_rfl) (fun _ _ _ h => h) (Or.inl ⟨rfl, ?ya3⟩) (by assumption) ?_
          case ya3 => (intro w hSw; (try dsimp only at hSw); go_simp; first | done | with_reducible rfl)
          simp only [List.getElem_toArray, List.getElem_cons_succ, List.getElem_cons_zero, Act.put, List.setIfInBounds_toArray, List.set_cons_zero, List.set_cons_succ]
          refine wpAnyH_take (i := 4) (v := ?va4) rfl (by kernel_rfl) (by kernel_rfl) (by kernel_rfl) (fun _ _ _ h => h) (Or.inl ⟨rfl, ?ya4⟩) (by assumption) ?_
          case ya4 => (intro w hSw; (try dsimp only at hSw); go_simp; first | done | with_reducible rfl)
          simp only [List.getElem_toArray, List.getElem_cons_succ, List.getElem_cons_zero, Act.put, List.setIfInBounds_toArray, List.set_cons_zero, List.set_cons_succ]
          refine wpAnyH_ready (rs := [5]) (by kernel_rfl) (by simp) ?_
          refine AllReadyH.cons rfl (fun K hK => ?_) AllReadyH.nil
          go_simp
          refine (hl.out x false h1.out _).mono ?_
          rintro e w1 ⟨rfl, hb1⟩
          go_wp2_with fail
          refine hK.out _ _ ?_ (fun hHeld => ?_)
          · exact kept6 (by assumption) hb1
          clear hK K hb1
          try simp only [List.getElem_toArray, List.getElem_cons_succ, List.getElem_cons_zero, Act.put, List.setIfInBounds_toArray, List.set_cons_zero, List.set_cons_succ]
          refine wpAnyH_take (i := 6) (v := ?va6) rfl (by kernel_rfl) (by kernel_rfl) (by kernel_rfl) (fun _ _ _ h => h) (Or.inl ⟨rfl, ?ya6⟩) (by assumption) ?_
          case ya6 => (intro w hSw; (try dsimp only at hSw); go_simp; first | done | with_reducible rfl)
          simp only [List.getElem_toArray, List.getElem_cons_succ, List.getElem_cons_zero, Act.put, List.setIfInBounds_toArray, List.set_cons_zero, List.set_cons_succ]
          refine wpAnyH_done (by kernel_rfl) ?_ _
          go_wp2
          go_ret
          obtain rfl := hN.out
          exact ⟨ret_i64 hr2.out.symm, hb0.out.step (hbw.step hHeld.1)⟩
        | true =>
          have hnx : Hid (xs.any (lacksB b) = (xs.drop (k + 1)).any (lacksB b)) := Lib.hid (by rw [he.out, hst.out]; simp [lacksB, h1])
          replace h1 := Lib.hid h1
          go_wp2_with fail
          refine wp_region_held_drew (S := fun w' => Below wr.heap.size wr w' ∧ w'.cell? ⟨N, 0, none⟩ = some (.int .i64 b.bars) ∧ w'.cell? ⟨N, 1, none⟩ = some (.int .i64 b.rise) ∧ w'.cell? ⟨N, 2, none⟩ = some (.int .i64 b.fall) ∧ w'.cell? ⟨N, 3, none⟩ = some (.int .i64 b.clear) ∧ w'.cell? ⟨N, 4, none⟩ = some (.int .i64 b.near) ∧ w'.cell? ⟨bb, off + k, none⟩ = some (.int .i64 x)) (by kernel_rfl) ?_ (fun hHeld => ?_)
          · exact ⟨(Below.refl _ _).drew, d0, d1, d2, d3, d4, c0⟩
          refine wpAnyH_take (i := 0) (v := ?vb0) rfl (by kernel_rfl) (by kernel_rfl) (by kernel_rfl) (fun _ _ _ h => h) (Or.inl ⟨rfl, ?yb0⟩) (by assumption) ?_
          case yb0 => (intro w hSw; (try dsimp only at hSw); go_simp; first | done | with_reducible rfl)
          simp only [List.getElem_toArray, List.getElem_cons_succ, List.getElem_cons_zero, Act.put, List.setIfInBounds_toArray, List.set_cons_zero, List.set_cons_succ]
          refine wpAnyH_take (i := 1) (v := ?vb1) rfl (by kernel_rfl) (by kernel_rfl) (by kernel_rfl) (fun _ _ _ h => h) (Or.inl ⟨rfl, ?yb1⟩) (by assumption) ?_
          case yb1 => (intro w hSw; (try dsimp only at hSw); go_simp; first | done | with_reducible rfl)
          simp only [List.getElem_toArray, List.getElem_cons_succ, List.getElem_cons_zero, Act.put, List.setIfInBounds_toArray, List.set_cons_zero, List.set_cons_succ]
          refine wpAnyH_take (i := 2) (v := ?vb2) rfl (by kernel_rfl) (by kernel_rfl) (by kernel_rfl) (fun _ _ _ h => h) (Or.inl ⟨rfl, ?yb2⟩) (by assumption) ?_
          case yb2 => (intro w hSw; (try dsimp only at hSw); go_simp; first | done | with_reducible rfl)
          simp only [List.getElem_toArray, List.getElem_cons_succ, List.getElem_cons_zero, Act.put, List.setIfInBounds_toArray, List.set_cons_zero, List.set_cons_succ]
          refine wpAnyH_take (i := 3) (v := ?vb3) rfl (by kernel_rfl) (by kernel_rfl) (by kernel_rfl) (fun _ _ _ h => h) (Or.inl ⟨rfl, ?yb3⟩) (by assumption) ?_
          case yb3 => (intro w hSw; (try dsimp only at hSw); go_simp; first | done | with_reducible rfl)
          simp only [List.getElem_toArray, List.getElem_cons_succ, List.getElem_cons_zero, Act.put, List.setIfInBounds_toArray, List.set_cons_zero, List.set_cons_succ]
          refine wpAnyH_take (i := 4) (v := ?vb4) rfl (by kernel_rfl) (by kernel_rfl) (by kernel_rfl) (fun _ _ _ h => h) (Or.inl ⟨rfl, ?yb4⟩) (by assumption) ?_
          case yb4 => (intro w hSw; (try dsimp only at hSw); go_simp; first | done | with_reducible rfl)
          simp only [List.getElem_toArray, List.getElem_cons_succ, List.getElem_cons_zero, Act.put, List.setIfInBounds_toArray, List.set_cons_zero, List.set_cons_succ]
          refine wpAnyH_ready (rs := [5]) (by kernel_rfl) (by simp) ?_
          refine AllReadyH.cons rfl (fun K hK => ?_) AllReadyH.nil
          go_simp
          refine (hl.out x true h1.out _).mono ?_
          rintro e w1 ⟨rfl, hb1⟩
          go_wp2_with fail
          refine hK.out _ _ ?_ (fun hHeld => ?_)
          · exact kept6 (by assumption) hb1
          clear hK K hb1
          try simp only [List.getElem_toArray, List.getElem_cons_succ, List.getElem_cons_zero, Act.put, List.setIfInBounds_toArray, List.set_cons_zero, List.set_cons_succ]
          refine wpAnyH_take (i := 6) (v := ?vb6) rfl (by kernel_rfl) (by kernel_rfl) (by kernel_rfl) (fun _ _ _ h => h) (Or.inl ⟨rfl, ?yb6⟩) (by assumption) ?_
          case yb6 => (intro w hSw; (try dsimp only at hSw); go_simp; first | done | with_reducible rfl)
          simp only [List.getElem_toArray, List.getElem_cons_succ, List.getElem_cons_zero, Act.put, List.setIfInBounds_toArray, List.set_cons_zero, List.set_cons_succ]
          refine wpAnyH_done (by kernel_rfl) ?_ _
          go_wp2
          go_roundw
          case rel => exact ⟨k + 1, by omega, by go_num, hbw.step hHeld.1, hnx.out⟩
          case measure => simp [intOf]; omega
      · obtain rfl : k = n := by omega
        have hal : Hid (xs.any (lacksB b) = false) := Lib.hid (by rw [he.out, any_end hl0])
        by_cases h60 : (60 : Int) < (k : Int)
        · have g1 : decide ((60 : Int) < (k : Int)) = true := decide_eq_true h60
          have hr2 : Hid (r = 2) := Lib.hid (by rw [hres.out, decide_eq_false (show ¬ (k : Int) ≤ 60 by omega)]; rfl)
          go_wp2
          go_ret
          obtain rfl := hN.out
          exact ⟨ret_i64 hr2.out.symm, hb0.out.step hbw⟩
        · have g1 : decide ((60 : Int) < (k : Int)) = false := decide_eq_false h60
          have hr2 : Hid (r = 0) := Lib.hid (by rw [hres.out, hal.out, decide_eq_true (show (k : Int) ≤ 60 by omega)]; rfl)
          go_wp2
          go_ret
          obtain rfl := hN.out
          exact ⟨ret_i64 hr2.out.symm, hb0.out.step hbw⟩
end Go.Proofs.Ytfhlpojaldidpaa
