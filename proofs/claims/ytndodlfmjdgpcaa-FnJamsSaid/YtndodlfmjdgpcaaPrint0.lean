/- The strokes that are printed: the model's function and the program's, which asks slices.ContainsFunc with a closure. -/
import Derived.Test.YtndodlfmjdgpcaaJams
import Derived.Test.YtndodlfmjdgpcaaBarCode
import Derived.Test.YtndodlfmjdgpcaaIntO
import Derived.Test.YtndodlfmjdgpcaaFast1
namespace Go.Proofs.Ytndodlfmjdgpcaa
open Go.RowKit
set_option linter.unusedVariables false
set_option linter.unusedSimpArgs false

def jamX (b : BasketD) (xs : List StrokeD) (y : StrokeD) (j : Nat) : Bool := match xs[j]? with
  | some x => jamB b x y
  | none => false
theorem jamX_of {b : BasketD} {xs : List StrokeD} {x y : StrokeD} {j : Nat} (h : xs[j]? = some x) : jamX b xs y j = jamB b x y := by simp [jamX, h]
/-- Which of the first k strokes are printed. -/
def printAt (b : BasketD) (xs : List StrokeD) : Nat → List Nat
  | 0 => []
  | k + 1 => match xs[k]? with
    | some y => if (printAt b xs k).any (jamX b xs y) = true then printAt b xs k else printAt b xs k ++ [k]
    | none => printAt b xs k
theorem printAt_yes {b : BasketD} {xs : List StrokeD} {y : StrokeD} {k : Nat} (hy : xs[k]? = some y) (h : (printAt b xs k).any (jamX b xs y) = true) : printAt b xs (k + 1) = printAt b xs k := by
  rw [printAt, hy]
  exact if_pos h
theorem printAt_no {b : BasketD} {xs : List StrokeD} {y : StrokeD} {k : Nat} (hy : xs[k]? = some y) (h : (printAt b xs k).any (jamX b xs y) = false) : printAt b xs (k + 1) = printAt b xs k ++ [k] := by
  rw [printAt, hy]
  exact if_neg (by rw [h]; simp)
theorem printAt_lt (b : BasketD) (xs : List StrokeD) : ∀ k, (∀ j ∈ printAt b xs k, j < k) ∧ (printAt b xs k).length ≤ k
  | 0 => ⟨fun j hj => by simp [printAt] at hj, by simp [printAt]⟩
  | k + 1 => by
    obtain ⟨h1, h2⟩ := printAt_lt b xs k
    rw [printAt]
    split
    · split
      · exact ⟨fun j hj => by have := h1 j hj; omega, by omega⟩
      · refine ⟨fun j hj => ?_, by simp; exact h2⟩
        rcases List.mem_append.1 hj with hj | hj
        · have := h1 j hj; omega
        · simp at hj; omega
    · exact ⟨fun j hj => by have := h1 j hj; omega, by omega⟩
def toI (l : List Nat) : List Int := l.map fun (j : Nat) => (j : Int)
theorem toI_at {l : List Nat} {q : Nat} {x : Int} (h : (toI l)[q]? = some x) : ∃ j, l[q]? = some j ∧ x = (j : Int) := by
  simp only [toI, List.getElem?_map, Option.map_eq_some_iff] at h
  obtain ⟨j, hj, rfl⟩ := h
  exact ⟨j, hj, rfl⟩
theorem toI_length (l : List Nat) : (toI l).length = l.length := by simp [toI]
theorem toI_snoc (l : List Nat) (k : Nat) : (toI (l ++ [k])).flatMap intC = (toI l).flatMap intC ++ [.int .i64 (k : Int)] := by simp [toI, intC]
def printed (b : BasketD) (xs : List StrokeD) : List Int := if strokesOk b xs = true then toI (printAt b xs xs.length) else []
def okCode (b : BasketD) (xs : List StrokeD) : Int := if strokesOk b xs = true then 0 else 1
/-- What is owned reads as a slice of numbers. -/
theorem owns_ints {w : World} {base n : Nat} {v : Value} {l : List Int} (hn : l.length = n) (h : w.ownsRow base 2 1 v n (l.flatMap intC)) : ∃ A c, v = .slice A n c ∧ OInts w base A n l := by
  subst hn
  exact ORow.of_owns (fun _ => rfl) h

set_option maxRecDepth 100000 in
set_option maxHeartbeats 1600000 in
theorem clo_jam (b : BasketD) (x y : StrokeD) (bb off n cc j N N1 M : Nat) (v : Bool) (w : World) (hjm : jamB b x y = v) (o1 : basketOk b = true) (o2 : hasBar b x.bar = true) (o3 : hasBar b y.bar = true) (o4 : 0 ≤ x.tick) (o5 : x.tick ≤ y.tick) (o6 : y.tick ≤ 1000000)
    (hbx : BoxB w N b) (hls : w.cell? ⟨N1, 0, none⟩ = some (.slice (some ⟨bb, off, none⟩) n cc)) (e0 : w.cell? ⟨M, 0, none⟩ = some (.int .i64 y.bar)) (e1 : w.cell? ⟨M, 1, none⟩ = some (.int .i64 y.tick))
    (f0 : w.cell? ⟨bb, off + j * 2, none⟩ = some (.int .i64 x.bar)) (f1 : w.cell? ⟨bb, off + j * 2 + 1, none⟩ = some (.int .i64 x.tick)) (hjn : j < n) :
    Calls Try.prog 58 #[.int .i64 (j : Int), .pointer (some ⟨N, 0, none⟩), .pointer (some ⟨N1, 0, none⟩), .pointer (some ⟨M, 0, none⟩)] w fun e w' => e = .returned (.bool v) ∧ Below w.heap.size w w' := by
  have hj := fun W => jam_impl b x y hjm o1 o2 o3 o4 o5 o6 W
  replace hj := Lib.hid hj
  clear hjm o1 o2 o3 o4 o5 o6
  obtain ⟨d0, d1, d2, d3, d4⟩ := hbx
  have hk0 : (0 : Int) ≤ (j : Int) := Int.natCast_nonneg _
  have hk1 : (j : Int) < (n : Int) := by omega
  go_enter Try.func58, Try.ntmps58
  go_wp2_with fail
  refine wp_region_held_drew (S := fun w' => Below w.heap.size w w' ∧ w'.cell? ⟨N, 0, none⟩ = some (.int .i64 b.bars) ∧ w'.cell? ⟨N, 1, none⟩ = some (.int .i64 b.rise) ∧ w'.cell? ⟨N, 2, none⟩ = some (.int .i64 b.fall) ∧ w'.cell? ⟨N, 3, none⟩ = some (.int .i64 b.clear) ∧ w'.cell? ⟨N, 4, none⟩ = some (.int .i64 b.near) ∧ w'.cell? ⟨N1, 0, none⟩ = some (.slice (some ⟨bb, off, none⟩) n cc) ∧ w'.cell? ⟨bb, off + j * 2, none⟩ = some (.int .i64 x.bar) ∧ w'.cell? ⟨bb, off + j * 2 + 1, none⟩ = some (.int .i64 x.tick) ∧ w'.cell? ⟨M, 0, none⟩ = some (.int .i64 y.bar) ∧ w'.cell? ⟨M, 1, none⟩ = some (.int .i64 y.tick)) (by kernel_rfl) ?_ (fun hHeld => ?_)
  · exact ⟨(Below.refl _ _).drew, d0, d1, d2, d3, d4, hls, f0, f1, e0, e1⟩
  refine wpAnyH_take (i := 0) (v := ?va0) rfl (by kernel_rfl) (by kernel_rfl) (by kernel_rfl) (fun _ _ _ h => h) (Or.inl ⟨rfl, ?ya0⟩) (by assumption) ?_
  case ya0 => (intro w hSw; (try dsimp only at hSw); go_simp; first | done | with_reducible rfl)
  simp only [List.getElem_toArray, List.getElem_cons_succ, List.getElem_cons_zero, Act.put, List.setIfInBounds_toArray, List.set_cons_zero, List.set_cons_succ]
  refine wpAnyH_take (i := 1) (v := ?va1) rfl (by kernel_rfl) (by kernel_rfl) (by kernel_rfl) (fun _ _ _ h => h) (Or.inl ⟨rfl, ?ya1⟩) (by assumption) ?_
  case ya1 => (intro w hSw; (try dsimp only at hSw); go_simp; first | done | with_reducible rfl)
  simp only [List.getElem_toArray, List.getElem_cons_succ, List.getElem_cons_zero, Act.put, List.setIfInBounds_toArray, List.set_cons_zero, List.set_cons_succ]
  refine wpAnyH_take (i := 2) (v := ?va2) rfl (by kernel_rfl) (by kernel_rfl) (by kernel_rfl) (fun _ _ _ h => h) (Or.inl ⟨rfl, ?ya2⟩) (by assumption) ?_
  case ya2 => (intro w hSw; (try dsimp only at hSw); go_simp; first | done | with_reducible rfl)
  simp only [List.getElem_toArray, List.getElem_cons_succ, List.getElem_cons_zero, Act.put, List.setIfInBounds_toArray, List.set_cons_zero, List.set_cons_succ]
  refine wpAnyH_take (i := 3) (v := ?va3) rfl (by kernel_rfl) (by kernel_rfl) (by kernel_rfl) (fun _ _ _ h => h) (Or.inl ⟨rfl, ?ya3⟩) (by assumption) ?_
  case ya3 => (intro w hSw; (try dsimp only at hSw); go_simp; first | done | with_reducible rfl)
  simp only [List.getElem_toArray, List.getElem_cons_succ, List.getElem_cons_zero, Act.put, List.setIfInBounds_toArray, List.set_cons_zero, List.set_cons_succ]
  refine wpAnyH_take (i := 4) (v := ?va4) rfl (by kernel_rfl) (by kernel_rfl) (by kernel_rfl) (fun _ _ _ h => h) (Or.inl ⟨rfl, ?ya4⟩) (by assumption) ?_
  case ya4 => (intro w hSw; (try dsimp only at hSw); go_simp; first | done | with_reducible rfl)
  simp only [List.getElem_toArray, List.getElem_cons_succ, List.getElem_cons_zero, Act.put, List.setIfInBounds_toArray, List.set_cons_zero, List.set_cons_succ]
  refine wpAnyH_take (i := 5) (v := ?va5) rfl (by kernel_rfl) (by kernel_rfl) (by kernel_rfl) (fun _ _ _ h => h) (Or.inl ⟨rfl, ?ya5⟩) (by assumption) ?_
  case ya5 => (intro w hSw; (try dsimp only at hSw); go_simp; first | done | with_reducible rfl)
  simp only [List.getElem_toArray, List.getElem_cons_succ, List.getElem_cons_zero, Act.put, List.setIfInBounds_toArray, List.set_cons_zero, List.set_cons_succ]
  refine wpAnyH_ready (rs := [6]) (by kernel_rfl) (by simp) ?_
  refine AllReadyH.cons rfl (fun K hK => ?_) AllReadyH.nil
  go_simp
  refine (hj.out _).mono ?_
  rintro e w1 ⟨rfl, hb1⟩
  go_wp2_with fail
  refine hK.out _ _ ?_ (fun hHeld => ?_)
  · exact kept10 (by assumption) hb1
  clear hK K hb1
  try simp only [List.getElem_toArray, List.getElem_cons_succ, List.getElem_cons_zero, Act.put, List.setIfInBounds_toArray, List.set_cons_zero, List.set_cons_succ]
  refine wpAnyH_take (i := 7) (v := ?va7) rfl (by kernel_rfl) (by kernel_rfl) (by kernel_rfl) (fun _ _ _ h => h) (Or.inl ⟨rfl, ?ya7⟩) (by assumption) ?_
  case ya7 => (intro w hSw; (try dsimp only at hSw); go_simp; first | done | with_reducible rfl)
  simp only [List.getElem_toArray, List.getElem_cons_succ, List.getElem_cons_zero, Act.put, List.setIfInBounds_toArray, List.set_cons_zero, List.set_cons_succ]
  refine wpAnyH_done (by kernel_rfl) ?_ _
  go_wp2
  go_ret
  exact ⟨rfl, hHeld.1⟩

set_option maxRecDepth 100000 in
set_option maxHeartbeats 1600000 in
theorem idx_clo (js : List Nat) (p : Nat → Bool) (A : Option Addr) (n c N N1 M : Nat) (w : World) (h : Ints w A n (toI js)) (hn : n ≤ 1048576)
    (hcl : ∀ j ∈ js, ∀ W, Below w.heap.size w W → Calls Try.prog 58 #[.int .i64 (j : Int), .pointer (some ⟨N, 0, none⟩), .pointer (some ⟨N1, 0, none⟩), .pointer (some ⟨M, 0, none⟩)] W fun e w' => e = .returned (.bool (p j)) ∧ Below W.heap.size W w') :
    Calls Try.prog 101 #[.slice A n c, .func (.func 58) #[] #[.pointer (some ⟨N, 0, none⟩), .pointer (some ⟨N1, 0, none⟩), .pointer (some ⟨M, 0, none⟩)]] w fun e w' => (∃ i : Int, e = .returned (.int .i64 i) ∧ decide (0 ≤ i) = js.any p) ∧ Below w.heap.size w w' := by
  replace hcl := Lib.hid hcl
  go_enter Try.func101, Try.ntmps101
  go_wp2
  go_loopw [8] (fun i wr => ∃ k : Nat, k ≤ n ∧ i = .int .i64 k ∧ Below w.heap.size w wr ∧ js.any p = (js.drop k).any p) (fun i _ => n - (intOf i).toNat)
  case atStart => exact ⟨0, by omega, rfl, Below.refl _ _, rfl⟩
  case round =>
    obtain ⟨k, hk, rfl, hbw, he⟩ := hrel
    replace he := Lib.hid he
    by_cases hlt : k < n
    · obtain ⟨bb, off, x, rfl, hb', hx, c0⟩ := int_at (h.below hbw) hlt
      obtain ⟨j, hj, rfl⟩ := toI_at hx.out
      have hk0 : (0 : Int) ≤ (k : Int) := Int.natCast_nonneg _
      have hk1 : (k : Int) < (n : Int) := by omega
      have hst := Lib.hid (any_drop (p := p) hj)
      have hc := hcl.out j (List.mem_of_getElem? hj) wr hbw
      cases h1 : p j with
      | true =>
        have hr : Hid (js.any p = true) := Lib.hid (by rw [he.out, hst.out, h1]; rfl)
        rw [h1] at hc
        replace hc := Lib.hid hc
        replace hj := Lib.hid hj
        clear h1
        go_wp2_with fail
        refine (hc.out).mono ?_
        rintro e w1 ⟨rfl, hb1⟩
        go_wp2
        go_ret
        exact ⟨⟨_, rfl, by rw [hr.out]; simp⟩, hbw.step hb1⟩
      | false =>
        have hnx : Hid (js.any p = (js.drop (k + 1)).any p) := Lib.hid (by rw [he.out, hst.out, h1]; rfl)
        rw [h1] at hc
        replace hc := Lib.hid hc
        replace hj := Lib.hid hj
        clear h1
        go_wp2_with fail
        refine (hc.out).mono ?_
        rintro e w1 ⟨rfl, hb1⟩
        go_wp2
        go_roundw
        case rel => exact ⟨k + 1, by omega, by go_num, hbw.step hb1, hnx.out⟩
        case measure => simp [intOf]; omega
    · obtain rfl : k = n := by omega
      have hr : Hid (js.any p = false) := Lib.hid (by rw [he.out, any_end (by rw [← h.1, toI_length])])
      go_wp2
      go_ret
      exact ⟨⟨_, rfl, by rw [hr.out]; rfl⟩, hbw⟩
theorem has_clo (js : List Nat) (p : Nat → Bool) (A : Option Addr) (n c N N1 M : Nat) (w : World) (h : Ints w A n (toI js)) (hn : n ≤ 1048576)
    (hcl : ∀ j ∈ js, ∀ W, Below w.heap.size w W → Calls Try.prog 58 #[.int .i64 (j : Int), .pointer (some ⟨N, 0, none⟩), .pointer (some ⟨N1, 0, none⟩), .pointer (some ⟨M, 0, none⟩)] W fun e w' => e = .returned (.bool (p j)) ∧ Below W.heap.size W w') (v : Bool) (hv : js.any p = v) :
    Calls Try.prog 59 #[.slice A n c, .func (.func 58) #[] #[.pointer (some ⟨N, 0, none⟩), .pointer (some ⟨N1, 0, none⟩), .pointer (some ⟨M, 0, none⟩)]] w fun e w' => e = .returned (.bool v) ∧ Below w.heap.size w w' := by
  have hi := idx_clo js p A n c N N1 M w h hn hcl
  rw [hv] at hi
  replace hi := Lib.hid hi
  clear hv h hcl
  go_enter Try.func59, Try.ntmps59
  go_wp2_with fail
  refine (hi.out).mono ?_
  rintro e w1 ⟨⟨i, rfl, hd⟩, hb1⟩
  replace hd := Lib.hid hd
  go_wp2
  go_ret
  exact ⟨ret_bo hd.out, hb1⟩
end Go.Proofs.Ytndodlfmjdgpcaa
