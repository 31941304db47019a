/- Ribbons: the program's tests on lists of ribbons and prices; indices; the first of the least costs. -/
import Derived.Test.YtceedmejmmoepaaDoorRe1
import Derived.Test.YtceedmejmmoepaaDoorRd1
namespace Go.Proofs.YtceedmejmmoepaaDoor
open Go.RowKit Go.ChangeShapes Go.WideShapes Go.Deep
set_option linter.unusedVariables false
set_option linter.unusedSimpArgs false

theorem nor14 (x : RibbonD) {v : Bool} (hv : rbB x = v) (w : World) :
    Calls Tryd.prog 34 #[.agg #[.int .i64 x.spots, .int .i64 x.ink, .int .i64 x.takes]] w fun e w' => e = .returned (.bool (!v)) ∧ Below w.heap.size w w' := by
  have hc := Lib.hid (fun W => ok14i x hv W)
  clear hv
  obtain ⟨S, I, K⟩ := x
  go_enter Tryd.func34, Tryd.ntmps34
  go_wp2_with fail
  refine (hc.out _).mono ?_
  rintro e w1 ⟨rfl, hb1⟩
  go_wp2
  go_ret
  exact ⟨rfl, (below_a1 _ _).step hb1⟩
theorem nop14 (p : Int) {v : Bool} (hv : priB p = v) (w : World) :
    Calls Tryd.prog 50 #[.int .i64 p] w fun e w' => e = .returned (.bool (!v)) ∧ w = w' := by
  have hc := Lib.hid (fun W => in8_impl (show inR p 0 100000 = v from hv) W)
  clear hv
  go_enter Tryd.func50, Tryd.ntmps50
  go_wp2_with fail
  refine (hc.out _).mono ?_
  rintro e w1 ⟨rfl, rfl⟩
  go_wp2
  go_ret
  exact ⟨rfl, rfl⟩
set_option maxHeartbeats 800000 in
theorem idx_rib14 (A : Option Addr) (n c : Nat) (ps : List RibbonD) {v : Bool} (hv : ps.all rbB = v) (w : World) (h : Ribbons w A n ps) (hn : n ≤ 1048576) :
    Calls Tryd.prog 49 #[.slice A n c, .func (.func 34) #[] #[]] w fun e w' => (∃ i : Int, e = .returned (.int .i64 i) ∧ decide (0 ≤ i) = !v) ∧ Below w.heap.size w w' := by
  have hv0 := Lib.hid hv
  have hl := Lib.hid h.1
  clear hv
  go_enter Tryd.func49, Tryd.ntmps49
  go_wp2
  go_loopw [5, 8] (fun _ i wr => ∃ k : Nat, k ≤ n ∧ i = .int .i64 k ∧ ps.all rbB = (ps.drop k).all rbB ∧ Below w.heap.size w wr) (fun _ i _ => n - (intOf i).toNat)
  case atStart => exact ⟨0, by omega, rfl, rfl, Below.refl _ _⟩
  case round =>
    rename World => wr
    obtain ⟨k, hk, rfl, he, hbw⟩ := hrel
    replace he := Lib.hid he
    by_cases hlt : k < n
    · obtain ⟨b, off, x, rfl, hb, hx, c0, c1, c2⟩ := ribbon_at (h.below hbw) hlt
      have hst := Lib.hid (all8_drop (p := rbB) hx.out)
      have hk0 : (0 : Int) ≤ (k : Int) := Int.natCast_nonneg _
      have hk1 : (k : Int) < (n : Int) := by omega
      cases h1 : rbB x with
      | false =>
        have hr : Hid (v = false) := Lib.hid (by rw [← hv0.out, he.out, hst.out]; simp only [h1]; rfl)
        have hj := Lib.hid (nor14 x h1 wr)
        clear h1
        obtain ⟨S, I, K⟩ := x
        go_wp2_with fail
        refine (hj.out).mono ?_
        rintro e w1 ⟨rfl, hb1⟩
        go_wp2
        go_ret
        exact ⟨⟨_, rfl, by rw [hr.out]; simp⟩, hbw.step hb1⟩
      | true =>
        have hnx : Hid (ps.all rbB = (ps.drop (k + 1)).all rbB) := Lib.hid (by rw [he.out, hst.out]; simp only [h1]; rfl)
        have hj := Lib.hid (nor14 x h1 wr)
        clear h1
        obtain ⟨S, I, K⟩ := x
        go_wp2_with fail
        refine (hj.out).mono ?_
        rintro e w1 ⟨rfl, hb1⟩
        have hbn := Lib.hid (hbw.step hb1)
        clear hbw
        go_wp2
        go_roundw
        case rel => exact ⟨k + 1, by omega, by go_num, hnx.out, hbn.out⟩
        case measure => simp [intOf]; omega
    · obtain rfl : k = n := by omega
      have hr : Hid (v = true) := Lib.hid (by rw [← hv0.out, he.out, all8_end (by rw [hl.out]; omega)])
      go_wp2
      go_ret
      exact ⟨⟨_, rfl, by rw [hr.out]; rfl⟩, hbw⟩
theorem has_rib14 (A : Option Addr) (n c : Nat) (ps : List RibbonD) {v : Bool} (hv : ps.all rbB = v) (w : World) (h : Ribbons w A n ps) (hn : n ≤ 1048576) :
    Calls Tryd.prog 33 #[.slice A n c, .func (.func 34) #[] #[]] w fun e w' => e = .returned (.bool (!v)) ∧ Below w.heap.size w w' := by
  have hi := Lib.hid (idx_rib14 A n c ps hv w h hn)
  clear hv h hn
  go_enter Tryd.func33, Tryd.ntmps33
  go_wp2_with fail
  refine (hi.out).mono ?_
  rintro e w1 ⟨⟨i, rfl, hd⟩, hb1⟩
  replace hd := Lib.hid hd
  go_wp2
  go_ret
  exact ⟨ret_bo hd.out, hb1⟩
set_option maxHeartbeats 800000 in
theorem idx_pri14 (A : Option Addr) (n c : Nat) (ps : List Int) {v : Bool} (hv : ps.all priB = v) (w : World) (h : Ints w A n ps) (hn : n ≤ 1048576) :
    Calls Tryd.prog 53 #[.slice A n c, .func (.func 50) #[] #[]] w fun e w' => (∃ i : Int, e = .returned (.int .i64 i) ∧ decide (0 ≤ i) = !v) ∧ Below w.heap.size w w' := by
  have hv0 := Lib.hid hv
  have hl := Lib.hid h.1
  clear hv
  go_enter Tryd.func53, Tryd.ntmps53
  go_wp2
  go_loopw [5, 8] (fun _ i wr => ∃ k : Nat, k ≤ n ∧ i = .int .i64 k ∧ ps.all priB = (ps.drop k).all priB ∧ Below w.heap.size w wr) (fun _ i _ => n - (intOf i).toNat)
  case atStart => exact ⟨0, by omega, rfl, rfl, Below.refl _ _⟩
  case round =>
    rename World => wr
    obtain ⟨k, hk, rfl, he, hbw⟩ := hrel
    replace he := Lib.hid he
    by_cases hlt : k < n
    · obtain ⟨b, off, x, rfl, hb, hx, c0⟩ := int_at (h.below hbw) hlt
      have hst := Lib.hid (all8_drop (p := priB) hx.out)
      have hk0 : (0 : Int) ≤ (k : Int) := Int.natCast_nonneg _
      have hk1 : (k : Int) < (n : Int) := by omega
      cases h1 : priB x with
      | false =>
        have hr : Hid (v = false) := Lib.hid (by rw [← hv0.out, he.out, hst.out]; simp only [h1]; rfl)
        have hj := Lib.hid (nop14 x h1 wr)
        clear h1
        skip
        go_wp2_with fail
        refine (hj.out).mono ?_
        rintro e w1 ⟨rfl, rfl⟩
        go_wp2
        go_ret
        exact ⟨⟨_, rfl, by rw [hr.out]; simp⟩, hbw⟩
      | true =>
        have hnx : Hid (ps.all priB = (ps.drop (k + 1)).all priB) := Lib.hid (by rw [he.out, hst.out]; simp only [h1]; rfl)
        have hj := Lib.hid (nop14 x h1 wr)
        clear h1
        skip
        go_wp2_with fail
        refine (hj.out).mono ?_
        rintro e w1 ⟨rfl, rfl⟩
        have hbn := Lib.hid (hbw)
        clear hbw
        go_wp2
        go_roundw
        case rel => exact ⟨k + 1, by omega, by go_num, hnx.out, hbn.out⟩
        case measure => simp [intOf]; omega
    · obtain rfl : k = n := by omega
      have hr : Hid (v = true) := Lib.hid (by rw [← hv0.out, he.out, all8_end (by rw [hl.out]; omega)])
      go_wp2
      go_ret
      exact ⟨⟨_, rfl, by rw [hr.out]; rfl⟩, hbw⟩
theorem has_pri14 (A : Option Addr) (n c : Nat) (ps : List Int) {v : Bool} (hv : ps.all priB = v) (w : World) (h : Ints w A n ps) (hn : n ≤ 1048576) :
    Calls Tryd.prog 51 #[.slice A n c, .func (.func 50) #[] #[]] w fun e w' => e = .returned (.bool (!v)) ∧ Below w.heap.size w w' := by
  have hi := Lib.hid (idx_pri14 A n c ps hv w h hn)
  clear hv h hn
  go_enter Tryd.func51, Tryd.ntmps51
  go_wp2_with fail
  refine (hi.out).mono ?_
  rintro e w1 ⟨⟨i, rfl, hd⟩, hb1⟩
  replace hd := Lib.hid hd
  go_wp2
  go_ret
  exact ⟨ret_bo hd.out, hb1⟩
theorem arep14 (B : Option Addr) (m d : Nat) (ps : List Int) (k : Nat) {v : Bool} (hv : (decide (m = k) && ps.all priB) = v) (w : World) (h : Ints w B m ps) (hm : m ≤ 1048576) :
    Calls Tryd.prog 36 #[.slice B m d, .int .i64 (k : Int)] w fun e w' => e = .returned (.bool v) ∧ Below w.heap.size w w' := by
  by_cases hmk : m = k
  · have hv2 : ps.all priB = v := by rw [← hv, decide_eq_true hmk, Bool.true_and]
    have hi := Lib.hid (has_pri14 B m d ps hv2 w h hm)
    have g1 : ((m : Int) == (k : Int)) = true := beq_iff_eq.2 (by omega)
    have g2 : (m == k) = true := beq_iff_eq.2 hmk
    clear hv hv2 h hmk
    go_enter Tryd.func36, Tryd.ntmps36
    go_wp2_with fail
    refine (hi.out).mono ?_
    rintro e w1 ⟨rfl, hb1⟩
    go_wp2
    go_ret
    exact ⟨by simp, hb1⟩
  · have hv2 : Hid (false = v) := Lib.hid (by rw [← hv, decide_eq_false hmk]; rfl)
    have g1 : ((m : Int) == (k : Int)) = false := beq_eq_false_iff_ne.2 (by omega)
    have g2 : (m == k) = false := beq_eq_false_iff_ne.2 hmk
    clear hv h hmk
    go_enter Tryd.func36, Tryd.ntmps36
    go_wp2
    go_ret
    exact ⟨ret_bo hv2.out, Below.refl _ _⟩
/-- The indices of the first ribbons with enough ink. -/
def idxL (xs : List RibbonD) (l : Int) : Nat → List Int
  | 0 => []
  | k + 1 => match xs[k]? with
    | some r => if r.ink < l then idxL xs l k else idxL xs l k ++ [(k : Int)]
    | none => idxL xs l k
theorem idxL_len (xs : List RibbonD) (l : Int) : ∀ k, (idxL xs l k).length ≤ k
  | 0 => Nat.le_refl _
  | k + 1 => by
    have := idxL_len xs l k
    rw [idxL]
    split
    · split
      · omega
      · simp; omega
    · omega
theorem idxL_in (xs : List RibbonD) (l : Int) : ∀ k, ∀ x ∈ idxL xs l k, ∃ i : Nat, x = (i : Int) ∧ i < k ∧ ∃ r, xs[i]? = some r ∧ l ≤ r.ink
  | 0, x, h => by cases h
  | k + 1, x, h => by
    rw [idxL] at h
    split at h
    · rename_i r hr
      split at h
      · obtain ⟨i, h1, h2, h3⟩ := idxL_in xs l k x h
        exact ⟨i, h1, by omega, h3⟩
      · rename_i hl
        rcases List.mem_append.1 h with h | h
        · obtain ⟨i, h1, h2, h3⟩ := idxL_in xs l k x h
          exact ⟨i, h1, by omega, h3⟩
        · simp at h
          exact ⟨k, h, by omega, r, hr, by omega⟩
    · obtain ⟨i, h1, h2, h3⟩ := idxL_in xs l k x h
      exact ⟨i, h1, by omega, h3⟩
theorem Tryd.infoInt : (Tryd.prog.info? 3).map (fun i => (i.zero, i.size, i.bytes)) = some (some (.int .i64 0), 1, 8) := by kernel_rfl
set_option maxRecDepth 100000 in
set_option maxHeartbeats 2400000 in
theorem wink14 (A : Option Addr) (n c : Nat) (xs : List RibbonD) (l : Int) (w : World) (h : Ribbons w A n xs) (hn : n ≤ 20) :
    Calls Tryd.prog 37 #[.slice A n c, .int .i64 l] w fun e w' => ∃ V, e = .returned V ∧ w'.ownsRow w.heap.size 3 1 V (idxL xs l n).length ((idxL xs l n).flatMap intC) ∧ Below w.heap.size w w' := by
  obtain ⟨i0, hi, hz0, hz1, hz2⟩ := info_parts Tryd.infoInt
  have hst := Lib.hid (fun k => (show idxL xs l (k + 1) = match xs[k]? with
    | some r => if r.ink < l then idxL xs l k else idxL xs l k ++ [(k : Int)]
    | none => idxL xs l k from rfl))
  have hln := Lib.hid (idxL_len xs l)
  have hL0 : Hid (idxL xs l 0 = []) := Lib.hid rfl
  generalize idxL xs l = L at *
  go_enter Tryd.func37, Tryd.ntmps37
  go_wp2
  go_loopw [5, 6, 7, 10] (fun o _ _ i wr => ∃ k : Nat, k ≤ n ∧ i = .int .i64 (k : Int) ∧ wr.ownsRow w.heap.size 3 1 o (L k).length ((L k).flatMap intC) ∧ Below w.heap.size w wr) (fun _ _ _ i _ => n - (intOf i).toNat)
  case atStart => exact ⟨0, by omega, rfl, by rw [hL0.out]; exact owns_nil8 w _ _, Below.refl _ _⟩
  case round =>
    rename World => wr
    obtain ⟨k, hk, rfl, hrow, hbw⟩ := hrel
    replace hrow := Lib.hid hrow
    have hwz := hbw.size
    by_cases hlt : k < n
    · obtain ⟨b, off, x, rfl, hb, hx, c0, c1, c2⟩ := ribbon_at (h.below hbw) hlt
      have hk0 : (0 : Int) ≤ (k : Int) := Int.natCast_nonneg _
      have hk1 : (k : Int) < (n : Int) := by omega
      have hs2 := hst.out k
      rw [hx.out] at hs2
      simp only at hs2
      have hlk := hln.out k
      obtain ⟨S, I, K⟩ := x
      simp only at c0 c1 c2 hs2
      by_cases hlk2 : I < l
      · have z1 : decide (l ≤ I) = false := decide_eq_false (by omega)
        have hL1 : Hid (L (k + 1) = L k) := Lib.hid (by rw [hs2, if_pos hlk2])
        clear hs2 hlk2
        have hb3 : Hid (∀ o : Obj, Below w.heap.size w (wr.alloc o)) := Lib.hid (fun o => hbw.step (below_a1 wr o))
        have hr3 : Hid (∀ o : Obj, (wr.alloc o).ownsRow w.heap.size 3 1 _ (L k).length ((L k).flatMap intC)) := Lib.hid (fun o => hrow.out.alloc o)
        go_wp2
        go_roundw
        case rel => exact ⟨k + 1, by omega, by go_num, by rw [hL1.out]; exact hr3.out _, hb3.out _⟩
        case measure => simp [intOf]; omega
      · have z1 : decide (l ≤ I) = true := decide_eq_true (by omega)
        have hL1 : Hid (L (k + 1) = L k ++ [(k : Int)]) := Lib.hid (by rw [hs2, if_neg hlk2])
        clear hs2 hlk2
        have hr3 := Lib.hid (fun o : Obj => hrow.out.alloc o)
        have hbx := Lib.hid (fun o : Obj => hbw.step (below_a1 wr o))
        have hnw : ∀ (o : Obj) (T : TypeId) (j : Nat) (u : Value), [Value.int .i64 (k : Int)][j]? = some u → ((wr.alloc o).alloc (.cells #[.int .i64 (k : Int)] T)).cell? ((⟨wr.heap.size + 1, 0, none⟩ : Addr).add j) = some u := fun o T => by
          have h := news8 (wr.alloc o) (.int .i64 (k : Int)) T
          rw [World.size_alloc] at h
          exact h
        go_wp2_with (at_builtin; refine wpList_append_own _ rfl _ _ 58 rfl w.heap.size 3 i0 _ 1 8 Tryd.underlying58 hi hz0 hz1 hz2 rfl (by decide) _ _ _ rfl ((hr3.out _).alloc _) ⟨wr.heap.size + 1, 0, none⟩ 1 1 [.int .i64 (k : Int)] rfl rfl (hnw _ _) (one8 _) (by unfold maxLen; omega) (by omega) (by simp; omega) ?_)
        intro vq wq hownq hgrq hnilq
        have hgqq := grown_trans (grown_below (below_a1 _ _) _) hgrq
        have hfin : Hid (wq.ownsRow w.heap.size 3 1 vq (L (k + 1)).length ((L (k + 1)).flatMap intC) ∧ Below w.heap.size w wq) := Lib.hid ⟨by rw [hL1.out, snoc8, List.length_append]; exact hownq, (hbx.out _).grown hgqq (hbx.out _).size (fun j hj => owns_ge8 hrow.out hj)⟩
        clear hownq hgrq hnilq hgqq hrow hr3 hbx
        go_wp2
        go_roundw
        case rel => exact ⟨k + 1, by omega, by go_num, hfin.out⟩
        case measure => simp [intOf]; omega
    · obtain rfl : k = n := by omega
      go_wp2
      go_ret
      exact ⟨_, rfl, hrow.out, hbw⟩
end Go.Proofs.YtceedmejmmoepaaDoor
