/- A Layout as an argument and as a result: what the law's own helpers on one do. -/
import Derived.Test.YticggclpaalhgaaStrO
import Derived.Test.YticggclpaalhgaaIntO
import Derived.Test.YticggclpaalhgaaOpen0
import Derived.ChangeArms
import Derived.ChangeMaps5
import Derived.Outline
import Derived.LoopTactic
namespace Go.Proofs.Yticggclpaalhgaa
open Go.RowKit Go.ChangeShapes Go.WideShapes Go.Deep
set_option linter.unusedVariables false
set_option linter.unusedSimpArgs false

theorem frozen_new {w : World} {cs : Array Value} {t : TypeId} {b o : Nat} (hb : b = w.heap.size) : (w.alloc (.cells cs t)).frozen? ⟨b, o, none⟩ = false := by
  subst hb
  have hq : (w.alloc (.cells cs t)).heap[w.heap.size]? = some (.cells cs t) := heap_alloc_new _ _
  exact own_frozen hq o
theorem frozen_on {w : World} {b o : Nat} (hb : b < w.heap.size) (h : w.frozen? ⟨b, o, none⟩ = false) (x : Obj) : (w.alloc x).frozen? ⟨b, o, none⟩ = false :=
  ((below_a1 w x).frozen (p := ⟨b, o, none⟩) hb).trans h
def strGood (x : ByteArray) : Prop := x.size ≤ maxLen
theorem toStrS_own (A : Option Addr) (n c : Nat) (ps : List ByteArray) (w : World) (h : Strs w A n ps) (hn : n ≤ 1048576) :
    Calls Try.prog 49 #[.slice A n c] w fun e w' => ∃ g, e = .returned (.slice (some ⟨g, 0, none⟩) n n) ∧ OStrs w' w.heap.size (some ⟨g, 0, none⟩) n ps ∧ Below w.heap.size w w' := by
  obtain ⟨i0, hi, hz0, hz1, hz2⟩ := info_parts Try.infoStr
  have hmk := fun W => run_make_many (P := Try.prog) 22 9 i0 _ Try.underlying22 hi hz0 .i64 .i64 n (by rw [hz2]; omega) (by omega) W
  rw [hz1] at hmk
  go_enter Try.func49, Try.ntmps49
  go_wp2
  go_loopw [4] (fun i wr => ∃ k : Nat, k ≤ n ∧ i = .int .i64 k ∧ Below w.heap.size w wr ∧ Filled 1 strC wr w.heap.size 9 (n) ps k) (fun i _ => n - (intOf i).toNat)
  case atStart => exact ⟨0, by omega, rfl, (Below.refl _ w).alloc (Nat.le_refl _) _, .start _ (made_row _ _ _ _)⟩
  case round =>
    obtain ⟨k, hk, rfl, hbw, hF⟩ := hrel
    by_cases hlt : k < n
    · obtain ⟨b, off, x, rfl, hb, hx, c0⟩ := str_at (h.below hbw) hlt
      obtain ⟨f, hrow1⟩ := hF.row
      have d0 := hrow1.cell (i := k) (by omega)
      have e0 := hrow1.frozen k
      have hstep := Lib.hid (hF.step hx.out (fun _ => rfl))
      simp only [strC, putRow, Nat.mul_one] at hstep
      have hbw1 := hbw.setCell (p := ⟨w.heap.size, k, none⟩) (Nat.le_refl _) (.string x)
      go_wp2
      go_roundw
      case rel => exact ⟨k + 1, by omega, by go_num, hbw1, hstep.out⟩
      case measure => simp [intOf]; omega
    · obtain rfl : k = n := by omega
      have hres := Lib.hid (ORow.of_filled (show Filled 1 strC wr w.heap.size 9 (k * 1) ps k by simpa using hF) h.1 (Nat.le_refl _) (fun _ => rfl))
      go_wp2
      go_ret
      exact ⟨_, rfl, hres.out, hbw⟩

/-- What szS hands back: less than nothing, or all is small. -/
def szStrOut (l : Int) (n : Nat) (ps : List ByteArray) (w : World) (e : Ending) (w' : World) : Prop :=
  ∃ v : Int, e = .returned (.int .i64 v) ∧ -1 ≤ v ∧ v ≤ l ∧ (0 ≤ v → (n : Int) ≤ l ∧ ∀ x ∈ ps, x.size ≤ 1048576) ∧ Below w.heap.size w w'
set_option maxHeartbeats 800000 in
theorem szStrS_any (A : Option Addr) (n c : Nat) (l : Int) (ps : List ByteArray) (w : World) (h : Strs w A n ps) (hg : ∀ x ∈ ps, strGood x) (h0 : 0 ≤ l) (h1 : l ≤ 1048576) (hn : n ≤ maxLen) :
    Calls Try.prog 47 #[.slice A n c, .int .i64 l] w (szStrOut l n ps w) := by
  unfold maxLen at hn
  by_cases hc : l - n < 0
  · go_enter Try.func47, Try.ntmps47
    go_wp2
    go_ret
    exact ⟨-1, rfl, by omega, by omega, fun h => absurd h (by omega), Below.refl _ _⟩
  · go_enter Try.func47, Try.ntmps47
    go_wp2
    go_loopw [1, 5] (fun left i wr => ∃ (k : Nat) (v : Int), k ≤ n ∧ i = .int .i64 k ∧ left = .int .i64 v ∧ 0 ≤ v ∧ v ≤ l ∧ (∀ j x, j < k → ps[j]? = some x → x.size ≤ 1048576) ∧ wr = w) (fun _ i _ => n - (intOf i).toNat)
    case atStart => exact ⟨0, l - n, by omega, rfl, rfl, by omega, by omega, fun j x hj => absurd hj (by omega), rfl⟩
    case round =>
      obtain ⟨k, v, hk, rfl, rfl, hv0, hv1, hs, rfl⟩ := hrel
      replace hs := Lib.hid hs
      by_cases hlt : k < n
      · obtain ⟨b, off, x, rfl, hb, hx, c0⟩ := str_at h hlt
        have hgx : x.size ≤ maxLen := hg x (List.mem_of_getElem? hx.out)
        unfold maxLen at hgx
        by_cases hneg : v - (x.size : Int) < 0
        · go_wp2
          go_ret
          exact ⟨-1, rfl, by omega, by omega, fun h => absurd h (by omega), Below.refl _ _⟩
        · have hnext : Hid (∀ j y, j < k + 1 → ps[j]? = some y → y.size ≤ 1048576) := Lib.hid fun j y hj hy => by
            rcases Nat.lt_or_ge j k with h2 | h2
            · exact hs.out j y h2 hy
            · obtain rfl : j = k := by omega
              have h3 := hx.out
              rw [hy] at h3
              cases h3
              omega
          go_wp2
          go_roundw
          case rel => exact ⟨k + 1, v - (x.size : Int), by omega, by go_num, rfl, by omega, by omega, hnext.out, by trivial⟩
          case measure => simp [intOf]; omega
      · obtain rfl : k = n := by omega
        have hall : Hid (∀ x ∈ ps, x.size ≤ 1048576) := Lib.hid fun x hx => by
          obtain ⟨j, hj, rfl⟩ := List.getElem_of_mem hx
          exact hs.out j _ (by rw [← h.1]; exact hj) (List.getElem?_eq_getElem hj)
        go_wp2
        go_ret
        exact ⟨v, rfl, by omega, by omega, fun _ => ⟨by omega, hall.out⟩, Below.refl _ _⟩

theorem toLay_own (A : Option Addr) (n c : Nat) (xs : List ByteArray) (w : World) (P : Strs w A n xs) (hn : n ≤ 1048576) :
    Calls Try.prog 16 #[.agg #[.slice A n c]] w fun e w' => ∃ g, e = .returned (.agg #[.slice (some ⟨g, 0, none⟩) n n]) ∧ OStrs w' w.heap.size (some ⟨g, 0, none⟩) n xs ∧ Below w.heap.size w w' := by
  have hq := Lib.hid (fun W (hP : Strs W A n xs) => toStrS_own A n c xs W hP hn)
  have hb0 := Lib.hid (below_a3 w (.cells #[.slice A n c] 24) (.cells #[.slice none 0 0] 27) (.cells #[.slice none 0 0] 27))
  have P' := P.below hb0.out
  go_enter Try.func16, Try.ntmps16
  go_wp2_with fail
  refine (hq.out _ P').mono ?_
  rintro e w1 ⟨g, rfl, hO, hb1⟩
  have hsz := hb1.size
  simp only [World.size_alloc] at hsz
  have k1 : w1.cell? ⟨w.heap.size + 1, 0, none⟩ = some (.slice none 0 0) := (hb1.cell (p := ⟨w.heap.size + 1, 0, none⟩) (by simp)).trans (cell_on (cell_new (by simp) rfl) _)
  have k2 : w1.cell? ⟨w.heap.size + 1 + 1, 0, none⟩ = some (.slice none 0 0) := (hb1.cell (p := ⟨w.heap.size + 1 + 1, 0, none⟩) (by simp)).trans (cell_new (by simp) rfl)
  have f1 : w1.frozen? ⟨w.heap.size + 1, 0, none⟩ = false := (hb1.frozen (p := ⟨w.heap.size + 1, 0, none⟩) (by simp)).trans (frozen_on (by simp) (frozen_new (by simp)) _)
  have f2 : w1.frozen? ⟨w.heap.size + 1 + 1, 0, none⟩ = false := (hb1.frozen (p := ⟨w.heap.size + 1 + 1, 0, none⟩) (by simp)).trans (frozen_new (by simp))
  have hO' := Lib.hid hO
  have hbw := Lib.hid (hb0.out.step hb1)
  go_wp2
  have hg3 : w.heap.size + 3 ≤ g := by
    have := hO'.out.own _ rfl
    simp only [World.size_alloc] at this
    omega
  have hres : Hid (OStrs ((w1.setCell ⟨w.heap.size + 1 + 1, 0, none⟩ (.slice (some ⟨g, 0, none⟩) n n)).setCell ⟨w.heap.size + 1, 0, none⟩ (.slice (some ⟨g, 0, none⟩) n n)) w.heap.size (some ⟨g, 0, none⟩) n xs) := Lib.hid ((hO'.out.mono (by simp only [World.size_alloc]; omega)).block (fun p hp => by
    cases hp
    rw [Below.heap_setCell _ _ _ _ (by simp only; omega), Below.heap_setCell _ _ _ _ (by simp only; omega)]))
  have hbel : Hid (Below w.heap.size w ((w1.setCell ⟨w.heap.size + 1 + 1, 0, none⟩ (.slice (some ⟨g, 0, none⟩) n n)).setCell ⟨w.heap.size + 1, 0, none⟩ (.slice (some ⟨g, 0, none⟩) n n))) := Lib.hid ((hbw.out.setCell (p := ⟨w.heap.size + 1 + 1, 0, none⟩) (by simp only; omega) _).setCell (p := ⟨w.heap.size + 1, 0, none⟩) (by simp only; omega) _)
  have r1 : ((w1.setCell ⟨w.heap.size + 1 + 1, 0, none⟩ (.slice (some ⟨g, 0, none⟩) n n)).setCell ⟨w.heap.size + 1, 0, none⟩ (.slice (some ⟨g, 0, none⟩) n n)).cell? ⟨w.heap.size + 1, 0, none⟩ = some (.slice (some ⟨g, 0, none⟩) n n) :=
    World.cell?_setCell_same _ _ _ ((World.cell?_setCell_other _ _ _ _ (fun e => by injection e with e1; omega)).trans k1)
  generalize (w1.setCell ⟨w.heap.size + 1 + 1, 0, none⟩ (.slice (some ⟨g, 0, none⟩) n n)).setCell ⟨w.heap.size + 1, 0, none⟩ (.slice (some ⟨g, 0, none⟩) n n) = wz at *
  refine bodyPost_ret (v := .agg #[.slice (some ⟨g, 0, none⟩) n n]) (by simp [results, Try.results16, go_sem, r1]) rfl ?_
  exact ⟨g, rfl, hres.out, hbel.out⟩

/-- szLayout: less than nothing, or all is small. -/
theorem szLayS_any (A : Option Addr) (n c : Nat) (l : Int) (xs : List ByteArray) (w : World) (h : Strs w A n xs) (hg : ∀ x ∈ xs, strGood x) (h0 : 0 ≤ l) (h1 : l ≤ 1048576) (hn : n ≤ maxLen) :
    Calls Try.prog 14 #[.agg #[.slice A n c], .int .i64 l] w (szStrOut l n xs w) := by
  have hq := Lib.hid (fun W (hP : Strs W A n xs) => szStrS_any A n c l xs W hP hg h0 h1 hn)
  have hb0 := Lib.hid (below_a1 w (.cells #[.slice A n c] 24))
  have P' := h.below hb0.out
  clear hg h0 h1 hn h
  go_enter Try.func14, Try.ntmps14
  go_wp2_with fail
  refine (hq.out _ P').mono ?_
  rintro e w1 ⟨v, rfl, h2, h3, h4, hb1⟩
  replace h4 := Lib.hid h4
  have hbw := Lib.hid (hb0.out.step hb1)
  by_cases hneg : v < 0
  · go_wp2
    go_ret
    exact ⟨-1, rfl, by omega, by omega, fun h => absurd h (by omega), hbw.out⟩
  · go_wp2
    go_ret
    exact ⟨v, rfl, h2, h3, h4.out, hbw.out⟩
theorem eqLayS_any (A B : Option Addr) (n m c d : Nat) (xs ys : List ByteArray) (w : World) (hA : Strs w A n xs) (hB : Strs w B m ys) (he : xs = ys) (hn : n ≤ 1048576) :
    Calls Try.prog 18 #[.agg #[.slice A n c], .agg #[.slice B m d]] w fun e w' => e = .returned (.bool true) ∧ Below w.heap.size w w' := by
  have hq := Lib.hid (fun W (hP : Strs W A n xs) (hQ : Strs W B m ys) => eqStrS_any A B n m c d xs ys W hP hQ he hn)
  have hb0 := Lib.hid (below_a2 w (.cells #[.slice A n c] 27) (.cells #[.slice B m d] 27))
  have hA' := hA.below hb0.out
  have hB' := hB.below hb0.out
  clear hA hB he hn
  go_enter Try.func18, Try.ntmps18
  go_wp2_with fail
  refine (hq.out _ hA' hB').mono ?_
  rintro e w1 ⟨rfl, hb1⟩
  have hbw := Lib.hid (hb0.out.step hb1)
  go_wp2
  go_ret
  exact ⟨rfl, hbw.out⟩
theorem markLayS_any (A : Option Addr) (n c : Nat) (k : Int) (xs : List ByteArray) (base : Nat) (w : World) (h : OStrs w base A n xs) (hn : n ≤ 1048576) (hk0 : 1 ≤ k) (hk1 : k ≤ 1099511627776) :
    Calls Try.prog 32 #[.agg #[.slice A n c], .int .i64 k] w fun e w' => e = .returned (.int .i64 (k + (n : Int))) ∧ OStrs w' base A n (marksOf 1 markStr k n) ∧ w.grownBy w' (A.map (·.block)) := by
  have hq := Lib.hid (fun W (hP : OStrs W base A n xs) => markStrS_any A n c k xs base W hP hn hk0 hk1)
  have hb0 := Lib.hid (below_a1 w (.cells #[.slice A n c] 27))
  have P' := h.below hb0.out
  clear hn hk0 hk1 h
  go_enter Try.func32, Try.ntmps32
  go_wp2_with fail
  refine (hq.out _ P').mono ?_
  rintro e w1 ⟨rfl, hO, hgr⟩
  have hO' := Lib.hid hO
  have hgr' := Lib.hid (grown_trans (grown_below hb0.out _) hgr)
  clear hO hgr
  go_wp2
  go_ret
  exact ⟨rfl, hO'.out, hgr'.out⟩
theorem heldLayS_any (A : Option Addr) (n c : Nat) (k : Int) (w : World) (h : Strs w A n (marksOf 1 markStr k n)) (hn : n ≤ 1048576) (hk0 : 1 ≤ k) (hk1 : k ≤ 1099511627776) :
    Calls Try.prog 44 #[.agg #[.slice A n c], .int .i64 k] w fun e w' => e = .returned (.int .i64 (k + (n : Int))) ∧ Below w.heap.size w w' := by
  have hq := Lib.hid (fun W (hP : Strs W A n (marksOf 1 markStr k n)) => heldStrS_any A n c k W hP hn hk0 hk1)
  have hb0 := Lib.hid (below_a1 w (.cells #[.slice A n c] 27))
  have P' := h.below hb0.out
  have hneg : decide (k + (n : Int) < 0) = false := decide_eq_false (by omega)
  clear hn hk0 hk1 h
  go_enter Try.func44, Try.ntmps44
  go_wp2_with fail
  refine (hq.out _ P').mono ?_
  rintro e w1 ⟨rfl, hb1⟩
  have hbw := Lib.hid (hb0.out.step hb1)
  go_wp2
  go_ret
  exact ⟨rfl, hbw.out⟩
set_option maxRecDepth 100000 in
theorem open_layout {H : Type} {enc : TypeId × Value → H} {w : World} {base : Nat} {spare : Nat → Bool} {held : Bool} {r : Reach} {b0 : Nat} {v : Value} {d : DataW H} {p : List MemPlace}
    (hv : Value.okWide Try.prog w r b0 24 v) (h : DataW.Trod enc Try.prog w base spare held 24 v d p) :
    ∃ A n c xs, v = .agg #[.slice A n c] ∧ (n ≤ maxLen ∧ Strs w A n xs ∧ ∀ x ∈ xs, strGood x) := by
  obtain ⟨cs, rfl, hs, hf⟩ := open_agg_any Try.underlying24 (by kernel_rfl) (by kernel_rfl) hv h
  obtain ⟨u, m, y, hu, ht⟩ := hf 0 _ rfl
  have hsz : cs.size = 1 := hs
  obtain rfl : cs = #[u] := by
    apply Array.ext
    · simpa using hsz
    · intro i h1 h2
      obtain rfl : i = 0 := by simp at h2; omega
      simpa using (Array.getElem?_eq_some_iff.1 hu).2
  rcases open_slice Try.underlying22 ht with ⟨hcs, _⟩ | ⟨a, len', cap', m', n', D, Pl, hcs, hb, hl, hm, hmm, hx, hi⟩
  · simp at hcs
    subst hcs
    exact ⟨none, 0, 0, [], rfl, by unfold maxLen; omega, .nil_, fun x hx => by cases hx⟩
  · simp at hcs
    subst hcs
    obtain ⟨xs, hx2, hg⟩ := open_list (w := w) 1 strC strGood (fun _ => rfl) (A := some a) (len := len') (by omega) (fun hn => by
      refine ⟨a, rfl, fun i hlt => ?_⟩
      have him' : i < m' := by
        subst hmm
        split <;> omega
      obtain ⟨cs', hc, ht'⟩ := hi i him'
      obtain ⟨s, e, _, hsz⟩ := DataW.trod_string Try.underlying9 ht'
      subst e
      refine ⟨s, hsz, fun j u hu => ?_⟩
      have hC : Try.prog.cellsOf 9 = 1 := by kernel_rfl
      rw [hC] at hc
      obtain ⟨_, hcl, hat⟩ := World.cells?_some hc
      match j, hu with
      | 0, hu =>
        cases hu
        have h9 := hat 0 (by simp)
        rw [Go.Deep.add_add] at h9
        simpa using h9
      | j + 1, hu => simp [strC] at hu)
    exact ⟨some a, len', cap', xs, rfl, Nat.le_trans hl hm, hx2, hg⟩
end Go.Proofs.Yticggclpaalhgaa
