/- The source of draws: what it hands out, and that it stays one. -/
import Derived.Test.YtlnhjknpeafgoaaOwn0
import Derived.Test.YtlnhjknpeafgoaaOpen0
import Derived.Deep.QuietTactic
import Derived.BigQuiet
import Derived.IntWalk
import Derived.Laws.Bits64b
import Derived.Laws.Entries
import Derived.Test.YtlnhjknpeafgoaaProg
import Derived.Below
import Derived.Lib.Hide
import Derived.WalkKit
import Derived.ProofKit
import Derived.Outline
import Derived.LoopTactic
import Derived.ChangeSlices
namespace Go.Proofs.Ytlnhjknpeafgoaa
open Go.RowKit Go.ChangeShapes Go.WideShapes Go.Deep
set_option linter.unusedVariables false
set_option linter.unusedSimpArgs false

def byteC (x : Int) : List Value := [.int .u8 x]
def byteGood (x : Int) : Prop := 0 ≤ x ∧ x ≤ 255
abbrev Bytes (w : World) (A : Option Addr) (n : Nat) (xs : List Int) : Prop := SRow 1 byteC w A n xs
theorem byte_at {w : World} {A : Option Addr} {n k : Nat} {xs : List Int} (h : Bytes w A n xs) (hk : k < n) :
    ∃ b off x, A = some ⟨b, off, none⟩ ∧ b < w.heap.size ∧ Hid (xs[k]? = some x) ∧ w.cell? ⟨b, off + k, none⟩ = some (.int .u8 x) := by
  obtain ⟨b, off, x, e, hb, hx, hc⟩ := h.at_ hk
  have h0 := hc 0 _ rfl
  rw [Nat.mul_one, Nat.add_zero] at h0
  exact ⟨b, off, x, e, hb, Lib.hid hx, h0⟩
/-- A source at block r that has handed out t choices at most. -/
def SrcAt (w : World) (r t : Nat) : Prop := ∃ (f : Nat → Value) (A : Option Addr) (n c a : Nat) (s : Int) (xs : List Int),
  w.rowIs r 59 3 f ∧ f 0 = .slice A n c ∧ f 1 = .int .i64 (a : Int) ∧ f 2 = .int .u64 s ∧ a ≤ t ∧ n ≤ maxLen ∧ Bytes w A n xs ∧ (∀ x ∈ xs, byteGood x) ∧ (0 < n → ∀ p, A = some p → p.block < r)
theorem SrcAt.mono {w : World} {r t t' : Nat} (h : SrcAt w r t) (ht : t ≤ t') : SrcAt w r t' := by
  obtain ⟨f, A, n, c, a, s, xs, h1, h2, h3, h4, h5, h6⟩ := h
  exact ⟨f, A, n, c, a, s, xs, h1, h2, h3, h4, Nat.le_trans h5 ht, h6⟩
theorem SrcAt.lt {w : World} {r t : Nat} (h : SrcAt w r t) : r < w.heap.size := by
  obtain ⟨f, A, n, c, a, s, xs, h1, _⟩ := h
  exact h1.lt
theorem SrcAt.below {w w' : World} {r t : Nat} (h : SrcAt w r t) (hb : Below w.heap.size w w') : SrcAt w' r t := by
  obtain ⟨f, A, n, c, a, s, xs, h1, h2, h3, h4, h5, h6, h7, h8, h9⟩ := h
  exact ⟨f, A, n, c, a, s, xs, h1.of_block (hb.block _ h1.lt), h2, h3, h4, h5, h6, h7.below hb, h8, h9⟩

/-- A younger block is written. -/
theorem SrcAt.grown {w w' : World} {r t q : Nat} (h : SrcAt w r t) (hg : w.grownBy w' (some q)) (hq : r < q) : SrcAt w' r t := by
  obtain ⟨f, A, n, c, a, s, xs, h1, h2, h3, h4, h5, h6, h7, h8, h9⟩ := h
  refine ⟨f, A, n, c, a, s, xs, h1.of_block (hg.block _ h1.lt (fun e => by cases e; omega)), h2, h3, h4, h5, h6, ?_, h8, h9⟩
  by_cases h0 : n = 0
  · subst h0
    exact ⟨h7.1, fun h => absurd h (by omega)⟩
  · exact h7.kept (B := some ⟨q, 0, none⟩) hg (fun p' q' e1 e2 => by cases e2; have := h9 (by omega) p' e1; simp only; omega)
theorem low8 (z : Int) : 0 ≤ wrap64 (bits BinOp.and IntKind.u64 (IntKind.u64.wrap z / 1099511627776) 255) ∧ wrap64 (bits BinOp.and IntKind.u64 (IntKind.u64.wrap z / 1099511627776) 255) ≤ 255 := by
  have hw : 0 ≤ IntKind.u64.wrap z ∧ IntKind.u64.wrap z ≤ 18446744073709551615 := by rw [IntKind.wrap_u64]; omega
  obtain ⟨a, ha⟩ : ∃ a : Nat, IntKind.u64.wrap z / 1099511627776 = (a : Int) := ⟨(IntKind.u64.wrap z / 1099511627776).toNat, by omega⟩
  have ha2 : a < 18446744073709551616 := by omega
  have h1 := bits_and_u64_nat a 255 ha2 (by decide)
  have h2 : a &&& 255 ≤ 255 := Nat.and_le_right
  rw [ha, show (255 : Int) = ((255 : Nat) : Int) from rfl, h1]
  unfold wrap64
  omega
theorem src_put {w : World} {r t n c a : Nat} {f : Nat → Value} {A : Option Addr} {xs : List Int} (hrow : w.rowIs r 59 3 f) (e0 : f 0 = .slice A n c) (hat : a ≤ t) (hn : n ≤ maxLen) (hB : Bytes w A n xs) (hg : ∀ x ∈ xs, byteGood x) (hne : 0 < n → ∀ p, A = some p → p.block < r) (p q : Nat) (s' : Int) :
    SrcAt ((((w.drewN p).setCell ⟨r, 1, none⟩ (.int .i64 ((a : Int) + 1))).setCell ⟨r, 2, none⟩ (.int .u64 s')).drewN q) r (t + 1) ∧ w.grownBy ((((w.drewN p).setCell ⟨r, 1, none⟩ (.int .i64 ((a : Int) + 1))).setCell ⟨r, 2, none⟩ (.int .u64 s')).drewN q) (some r) := by
  have hgr0 := grown_put (g := r) [.int .i64 ((a : Int) + 1), .int .u64 s'] (w.drewN p) 1
  have hgr : w.grownBy ((((w.drewN p).setCell ⟨r, 1, none⟩ (.int .i64 ((a : Int) + 1))).setCell ⟨r, 2, none⟩ (.int .u64 s')).drewN q) (some r) := ⟨hgr0.os, hgr0.tape, hgr0.output, hgr0.size, hgr0.block⟩
  refine ⟨⟨_, A, n, c, a + 1, s', xs, putRow_row [.int .i64 ((a : Int) + 1), .int .u64 s'] (w.drewN p) 1 f hrow, by simp [e0], by simp, by simp, by omega, hn, ?_, hg, hne⟩, hgr⟩
  by_cases h0 : n = 0
  · subst h0
    have : xs = [] := List.length_eq_zero_iff.1 hB.1
    subst this
    exact ⟨rfl, fun h => absurd h (by omega)⟩
  · exact hB.kept (B := some ⟨r, 0, none⟩) hgr (fun p' q' h1 h2 => by cases h2; exact Nat.ne_of_lt (hne (by omega) p' h1))

set_option maxRecDepth 100000 in
set_option maxHeartbeats 1600000 in
theorem next_any (r t : Nat) (w : World) (h : SrcAt w r t) (ht : t ≤ 1099511627776) :
    Calls Try.prog 31 #[.pointer (some ⟨r, 0, none⟩)] w fun e w' => ∃ x : Int, e = .returned (.int .i64 x) ∧ 0 ≤ x ∧ x ≤ 255 ∧ SrcAt w' r (t + 1) ∧ w.grownBy w' (some r) := by
  obtain ⟨f, A, n, c, a, s, xs, hrow, e0, e1, e2, hat, hn, hB, hg, hne⟩ := h
  unfold maxLen at hn
  have c0 := hrow.cell (i := 0) (by omega)
  have c1 := hrow.cell (i := 1) (by omega)
  have c2 := hrow.cell (i := 2) (by omega)
  rw [e0] at c0
  rw [e1] at c1
  rw [e2] at c2
  have f1 := hrow.frozen 1
  have f2 := hrow.frozen 2
  have ha0 : (0 : Int) ≤ (a : Int) := Int.natCast_nonneg _
  by_cases hlt : a < n
  · obtain ⟨b, off, x, rfl, hb, hx, x0⟩ := byte_at hB hlt
    obtain ⟨g0, g1⟩ := hg x (List.mem_of_getElem? hx.out)
    have ha1 : (a : Int) < (n : Int) := by omega
    have hd : decide ((a : Int) < (n : Int)) = true := decide_eq_true ha1
    go_enter Try.func31, Try.ntmps31
    go_wp2_with fail
    go_quiet (fail)
    go_wp2_with fail
    go_quiet (fail)
    go_wp2_with fail
    have hd2 : decide ((a : Int) + 1 ≤ (n : Int)) = true := decide_eq_true (by omega)
    go_quiet (fail)
    go_wp2
    go_ret
    obtain ⟨h1, h2⟩ := src_put hrow e0 hat (by unfold maxLen; omega) hB hg hne _ _ _
    exact ⟨x, rfl, g0, g1, h1, h2⟩
  · have hd : decide ((a : Int) < (n : Int)) = false := decide_eq_false (by omega)
    have hd2 : decide ((a : Int) + 1 ≤ (n : Int)) = false := decide_eq_false (by omega)
    go_enter Try.func31, Try.ntmps31
    go_wp2_with fail
    go_quiet (fail)
    go_wp2_with fail
    go_quiet (fail)
    go_wp2
    go_ret
    obtain ⟨h1, h2⟩ := src_put hrow e0 hat (by unfold maxLen; omega) hB hg hne _ _ _
    obtain ⟨l0, l1⟩ := low8 _
    exact ⟨_, rfl, l0, l1, h1, h2⟩

theorem rem_in {x n : Int} (hx : 0 ≤ x) (hn : 0 < n) : 0 ≤ x % n ∧ x % n < n := ⟨Int.emod_nonneg _ (by omega), Int.emod_lt_of_pos _ hn⟩
theorem grown_grown {a b c : World} {row : Option Nat} (h : a.grownBy b row) (k : b.grownBy c row) : a.grownBy c row := grown_trans h k
set_option maxRecDepth 100000 in
set_option maxHeartbeats 1600000 in
/-- A number from 0 to n - 1; 0 where n is 1 or less. -/
theorem pick_any (r t : Nat) (n : Int) (w : World) (h : SrcAt w r t) (ht : t ≤ 1000000000000) (hn : n ≤ 1099511627776) :
    Calls Try.prog 24 #[.pointer (some ⟨r, 0, none⟩), .int .i64 n] w fun e w' => ∃ x : Int, e = .returned (.int .i64 x) ∧ 0 ≤ x ∧ (1 < n → x < n) ∧ (n ≤ 1 → x = 0) ∧ SrcAt w' r (t + 2) ∧ w.grownBy w' (some r) := by
  by_cases h1 : n ≤ 1
  · have hd : decide (n ≤ 1) = true := decide_eq_true h1
    have hout : Hid (SrcAt w r (t + 2)) := Lib.hid (h.mono (by omega))
    have hh1 := Lib.hid h1
    clear h1
    go_enter Try.func24, Try.ntmps24
    go_wp2
    go_ret
    exact ⟨0, rfl, by omega, fun h => absurd hh1.out (by omega), fun _ => rfl, hout.out, grown_refl _ _⟩
  · have hd : decide (n ≤ 1) = false := decide_eq_false h1
    have hpos : 0 < n := by omega
    have hne : n ≠ 0 := by omega
    have hne' : (n == 0) = false := beq_eq_false_iff_ne.2 hne
    have hnx := Lib.hid (next_any r t w h (by omega))
    by_cases h2 : 200 < n
    · have hd2 : decide (200 < n) = true := decide_eq_true h2
      go_enter Try.func24, Try.ntmps24
      go_wp2_with fail
      refine hnx.out.mono ?_
      rintro e w1 ⟨x, rfl, x0, x1, hs1, hg1⟩
      have hnx2 := Lib.hid (next_any r (t + 1) w1 hs1 (by omega))
      have hm : IntKind.i64.wrap (x * 256) = x * 256 := IntWalk.i64_in _ (by omega)
      go_wp2_with fail
      refine hnx2.out.mono ?_
      rintro e w2 ⟨y, rfl, y0, y1, hs2, hg2⟩
      have hm2 : IntKind.i64.wrap (x * 256 + y) = x * 256 + y := IntWalk.i64_in _ (by omega)
      have hr := rem_in (x := x * 256 + y) (n := n) (by omega) hpos
      go_wp2
      go_ret
      exact ⟨_, rfl, hr.1, fun _ => hr.2, fun h => absurd h (by omega), hs2, grown_trans hg1 hg2⟩
    · have hd2 : decide (200 < n) = false := decide_eq_false h2
      go_enter Try.func24, Try.ntmps24
      go_wp2_with fail
      refine hnx.out.mono ?_
      rintro e w1 ⟨x, rfl, x0, x1, hs1, hg1⟩
      have hr := rem_in (x := x) (n := n) (by omega) hpos
      go_wp2
      go_ret
      exact ⟨_, rfl, hr.1, fun _ => hr.2, fun h => absurd h (by omega), hs1.mono (by omega), hg1⟩
/-- A source of some bytes. -/
theorem from_any (A : Option Addr) (n c : Nat) (xs : List Int) (w : World) (hn : n ≤ maxLen) (h : Bytes w A n xs) (hg : ∀ x ∈ xs, byteGood x) :
    Calls Try.prog 17 #[.slice A n c] w fun e w' => e = .returned (.pointer (some ⟨w.heap.size, 0, none⟩)) ∧ SrcAt w' w.heap.size 0 ∧ Below w.heap.size w w' := by
  have hout : Hid (SrcAt (w.alloc (.cells #[.slice A n c, .int .i64 0, .int .u64 0] 59)) w.heap.size 0) := Lib.hid (by
    refine ⟨fun j => (#[Value.slice A n c, .int .i64 0, .int .u64 0][j]?).getD undef, A, n, c, 0, 0, xs, ⟨_, heap_alloc_new _ _, rfl, fun i hi => ?_⟩, rfl, rfl, rfl, by omega, hn, h.below (below_a1 _ _), hg, fun hpos p hp => ?_⟩
    · match i, hi with
      | 0, _ => rfl
      | 1, _ => rfl
      | 2, _ => rfl
    · obtain ⟨b, off, e, hb, _⟩ := h.2 hpos
      rw [e] at hp
      cases hp
      exact hb)
  go_enter Try.func17, Try.ntmps17
  go_wp2
  go_ret
  exact ⟨rfl, hout.out, below_a1 _ _⟩

end Go.Proofs.Ytlnhjknpeafgoaa
