/- Ribbons: the iterator of a text's shades. -/
import Derived.RangeFuncNested
import Derived.RangeFuncBound
import Derived.RangeFuncCalls
import Derived.RangeFuncLeaves
import Derived.Shelf.Abstract
import Derived.Shelf.RegionOpen
import Derived.WalkKit
import Derived.OwnWalkIn
import Derived.TacticsInMore
import Derived.LoopNIn
import Derived.LoopIn
import Derived.Laws.RangeAny
import Derived.Lib.OthersKept
import Derived.Test.YtceedmejmmoepaaRc1
import Derived.Test.YtceedmejmmoepaaRc4
namespace Go.Proofs.Ytceedmejmmoepaa
open Go.RowKit Go.ChangeShapes Go.WideShapes Go.Deep Go.Shelf
set_option linter.unusedVariables false
set_option linter.unusedSimpArgs false
attribute [local go_sem] Oper.semAt_some

/-- Some blocks stand as they stood. -/
structure KeptR (B E : Nat) (W W' : World) : Prop where
  size : W.heap.size ≤ W'.heap.size
  same : ∀ k, B ≤ k → k < E → W'.heap[k]? = W.heap[k]?
theorem keptR_t {B E : Nat} {X Y Z : World} (h : KeptR B E X Y) (k : KeptR B E Y Z) : KeptR B E X Z := ⟨Nat.le_trans h.size k.size, fun i h1 h2 => (k.same i h1 h2).trans (h.same i h1 h2)⟩
theorem keptR_b {B E : Nat} (W : World) (l : Nat) (o o' : Obj) (hl : E ≤ l) (_ : W.heap[l]? = some o) (_ : o.isCells = false) (_ : o.isWalk = false) : KeptR B E W (W.putObj l o') :=
  ⟨by simp, fun k _ h2 => World.putObj_heap_other (fun e => by omega)⟩
theorem keptR_below {B E : Nat} {W W' : World} (h : Below W.heap.size W W') (hE : E ≤ W.heap.size) : KeptR B E W W' := ⟨h.size, fun k _ h2 => h.block k (by omega)⟩
/-- What the iterator has captured: the ribbon, the strokes that were done, the text. -/
structure Capt (N : Nat) (r : RibbonD) (d : Nat) (s : ByteArray) (W : World) : Prop where
  b0 : Box3r N (.int .i64 r.spots) (.int .i64 r.ink) (.int .i64 r.takes) W
  b1 : W.cell? ⟨N + 1, 0, none⟩ = some (.int .i64 (d : Int))
  b2 : W.cell? ⟨N + 2, 0, none⟩ = some (.string s)
theorem Capt.kept {N : Nat} {r : RibbonD} {d : Nat} {s : ByteArray} {W W' : World} (h : Capt N r d s W) (hk : KeptR N (N + 3) W W') : Capt N r d s W' := by
  obtain ⟨⟨c0, c1, c2⟩, c3, c4⟩ := h
  have h0 := hk.same N (by omega) (by omega)
  have h1 := hk.same (N + 1) (by omega) (by omega)
  have h2 := hk.same (N + 2) (by omega) (by omega)
  exact ⟨⟨by rw [World.cell?, h0]; exact c0, by rw [World.cell?, h0]; exact c1, by rw [World.cell?, h0]; exact c2⟩, by rw [World.cell?, h1]; exact c3, by rw [World.cell?, h2]; exact c4⟩
theorem Capt.below {N : Nat} {r : RibbonD} {d : Nat} {s : ByteArray} {W W' : World} (h : Capt N r d s W) (hb : Below W.heap.size W W') : Capt N r d s W' :=
  ⟨h.b0.step hb, cell_step h.b1 hb, cell_step h.b2 hb⟩
theorem Capt.lt {N : Nat} {r : RibbonD} {d : Nat} {s : ByteArray} {W : World} (h : Capt N r d s W) : N + 2 < W.heap.size := World.block_lt_of_cell? W _ h.b2
/-- A letter's index, which lies in the text, and its shade. -/
abbrev InkX (m : Nat) := {x : Nat × Int // x.1 < m}
def encI {m : Nat} (x : InkX m) : Array Value := #[.int .i64 (x.1.1 : Int), .int .i64 x.1.2]
set_option maxRecDepth 100000 in
set_option maxHeartbeats 3200000 in
theorem ink1_in (n : Nat) (hn : 1 ≤ n) (l N : Nat) (r : RibbonD) (hok : rbB r = true) (d : Nat) (hd : d ≤ 100000) (s : ByteArray) (hs : s.size ≤ 100) (J Jx : List (InkX s.size) → World → Prop) (W : World)
    (hJ : AbidesFrom W.heap.size J)
    (hY : ∀ pre x W, J pre W → pre.length < 100 → YieldAt Fence.wide (n - 1) Try.prog l (encI x) W fun e W' =>
      (e = .returned (.bool true) ∧ J (pre ++ [x]) W' ∧ KeptR N (N + 3) W W') ∨ (e = .returned (.bool false) ∧ Jx (pre ++ [x]) W'))
    (hC : Capt N r d s W) (h0 : J [] W) :
    CallsIn Fence.wide n Try.prog 56 #[.func (.yield l) #[] #[], .pointer (some ⟨N + 1, 0, none⟩), .pointer (some ⟨N + 2, 0, none⟩), .pointer (some ⟨N, 0, none⟩)] W fun e W' => (∃ v, e = .returned v) ∧
      ((∃ ys : List (InkX s.size), ys.map Subtype.val = inkL r d s s.size ∧ J ys W') ∨ (∃ pre : List (InkX s.size), (∃ k, k ≤ s.size ∧ pre.map Subtype.val = inkL r d s k) ∧ Jx pre W')) := by
  have hsh := Lib.hid (fun (k : Nat) (hk : k ≤ 200000) W => shade14i r hok k hk rfl W)
  have hin := Lib.hid (fun k => (show inkL r d s (k + 1) = if (bAt s k).toNat = 32 then inkL r d s k else inkL r d s k ++ [(k, shadeV r (d + (inkL r d s k).length))] from rfl))
  have hil := Lib.hid (inkL_len r d s)
  have hi0 : Hid (inkL r d s 0 = []) := Lib.hid rfl
  obtain ⟨D, hD⟩ : ∃ D, (fun k => shadeV r k) = D := ⟨_, rfl⟩
  have hDk : ∀ k, shadeV r k = D k := fun k => by rw [← hD]
  simp only [hDk] at hsh hin
  generalize inkL r d s = IL at *
  clear hok hDk hD
  obtain ⟨S, I, K⟩ := r
  simp only at hsh
  obtain ⟨⟨q0, q1, q2⟩, q3, q4⟩ := hC
  have hC0 : Hid (Capt N ⟨S, I, K⟩ d s W) := Lib.hid ⟨⟨q0, q1, q2⟩, q3, q4⟩
  simp only at q0 q1 q2
  replace hY := Lib.hid hY
  replace hJ := Lib.hid hJ
  replace h0 := Lib.hid h0
  refine callsIn_of_wp Try.func56 rfl trivial ?_ rfl
  simp only [Try.ntmps56, List.size_toArray, List.length_cons, List.length_nil, Nat.reduceAdd, Nat.reduceSub, Array.replicate_succ, Array.replicate_zero, List.push_toArray, List.append_toArray, List.nil_append, List.cons_append]
  gi_wp2
  clear q0 q1 q2 q3 q4
  gi_loopw [5, 6, 10] (fun st _ i wr => ∃ (k : Nat) (pre : List (InkX s.size)), k ≤ s.size ∧ i = .int .i64 (k : Int) ∧ st = .int .i64 ((d + (IL k).length : Nat) : Int) ∧ pre.map Subtype.val = IL k ∧ J pre wr ∧ Capt N ⟨S, I, K⟩ d s wr) (fun _ _ i _ => s.size - (intOf i).toNat)
  case atStart => exact ⟨0, [], by omega, rfl, by rw [hi0.out]; rfl, hi0.out.symm, h0.out, hC0.out⟩
  case round =>
    rename World => wr
    obtain ⟨k, pre, hk, rfl, rfl, hpre, hJs, hCs⟩ := hrel
    replace hpre := Lib.hid hpre
    replace hJs := Lib.hid hJs
    replace hCs := Lib.hid hCs
    by_cases hlt : k < s.size
    · have e0 : (0 : Int) ≤ (k : Int) := by omega
      have e1 : (k : Int) < (s.size : Int) := by omega
      have hwk : IntKind.i64.wrap ((k : Int) + 1) = ((k + 1 : Nat) : Int) := by rw [IntWalk.i64_in _ (by omega)]; omega
      have hb : bAt s k = s[k]'hlt := bAt_eq hlt
      have hlk := hil.out k
      obtain ⟨⟨q0, q1, q2⟩, q3, q4⟩ := hCs.out
      simp only at q0 q1 q2
      by_cases h32 : (s[k]'hlt).toNat = 32
      · obtain ⟨y1, y2⟩ : (((s[k]'hlt).toNat : Int) == 32) = true ∧ ((s[k]'hlt).toNat == 32) = true := ⟨beq_iff_eq.2 (by omega), beq_iff_eq.2 h32⟩
        have hI1 : Hid (IL (k + 1) = IL k) := Lib.hid (by rw [hin.out, if_pos (by rw [hb]; exact h32)])
        clear h32 hb
        gi_wp2
        go_roundw
        case rel => exact ⟨k + 1, pre, by omega, by go_num, (by rw [hI1.out]; try (first | rfl | go_num | (push_cast; rfl))), by rw [hI1.out]; exact hpre.out, hJs.out, hCs.out⟩
        case measure => simp [intOf]; omega
      · obtain ⟨y1, y2⟩ : (((s[k]'hlt).toNat : Int) == 32) = false ∧ ((s[k]'hlt).toNat == 32) = false := ⟨beq_eq_false_iff_ne.2 (by omega), beq_eq_false_iff_ne.2 h32⟩
        have hI1 : Hid (IL (k + 1) = IL k ++ [(k, D (d + (IL k).length))]) := Lib.hid (by rw [hin.out, if_neg (by rw [hb]; exact h32)])
        have hIl : Hid ((IL (k + 1)).length = (IL k).length + 1) := Lib.hid (by rw [hI1.out]; simp)
        have hc2 := Lib.hid (fun W => hsh.out (d + (IL k).length) (by omega) W)
        have hwt : IntKind.i64.wrap (((d + (IL k).length : Nat) : Int) + 1) = ((d + (IL k).length + 1 : Nat) : Int) := by rw [IntWalk.i64_in _ (by omega)]; omega
        have hlk2 : pre.length < 100 := by
          have := congrArg List.length hpre.out
          rw [List.length_map] at this
          omega
        generalize hT : d + (IL k).length = T at *
        replace hT := Lib.hid hT
        clear h32 hb
        gi_wp2_with fail
        refine ⟨trivial, (callsIn_wide.2 (hc2.out _)).mono ?_⟩
        rintro e w2 ⟨rfl, hb2⟩
        have hJ2 := Lib.hid (hJ.out pre _ w2 none hJs.out (grown_below hb2 none) (fun r e => by cases e))
        have hC2 := Lib.hid (hCs.out.below hb2)
        clear hb2 q0 q1 q2 q3 q4 hJs hCs
        obtain ⟨x, hx⟩ : ∃ x : InkX s.size, x.1 = (k, D T) := ⟨⟨(k, D T), hlt⟩, rfl⟩
        obtain ⟨fn, tmps, assign, body, hy, hR⟩ := hY.out pre x w2 hJ2.out hlk2
        have hpre2 : Hid ((pre ++ [x]).map Subtype.val = IL (k + 1)) := Lib.hid (by rw [hI1.out, List.map_append, hpre.out, ← hx]; rfl)
        simp only [encI, hx] at hy
        replace hx := Lib.hid hx
        gi_wp2
        refine hR.mono ?_
        rintro e W3 (⟨rfl, hJ3, hk3⟩ | ⟨rfl, hJx3⟩)
        · have hC3 := Lib.hid (hC2.out.kept hk3)
          replace hk3 := Lib.hid hk3
          replace hJ3 := Lib.hid hJ3
          gi_wp2
          go_roundw
          case rel => exact ⟨k + 1, _, by omega, by go_num, (by rw [hIl.out, ← Nat.add_assoc, hT.out]; try go_num), hpre2.out, hJ3.out, hC3.out⟩
          case measure => simp [intOf]; omega
        · have hJx4 := Lib.hid hJx3
          gi_wp2
          refine bodyPost_ret (results_none rfl _ _ _) rfl ?_
          exact ⟨⟨_, rfl⟩, .inr ⟨_, ⟨k + 1, by omega, hpre2.out⟩, hJx4.out⟩⟩
    · obtain rfl : k = s.size := by omega
      have e1 : decide ((s.size : Int) < (s.size : Int)) = false := decide_eq_false (by omega)
      obtain ⟨⟨q0, q1, q2⟩, q3, q4⟩ := hCs.out
      simp only at q0 q1 q2
      gi_wp2
      go_end0
      exact ⟨⟨_, rfl⟩, .inl ⟨pre, hpre.out, hJs.out⟩⟩
/-- The iterator's contract: all letters come, in their order. -/
theorem ink_stops (n : Nat) (hn : 1 ≤ n) (N : Nat) (r : RibbonD) (hok : rbB r = true) (d : Nat) (hd : d ≤ 100000) (s : ByteArray) (hs : s.size ≤ 100) (w : World) (hC : Capt N r d s w) :
    SeqStopsK Fence.wide n Try.prog 56 #[.pointer (some ⟨N + 1, 0, none⟩), .pointer (some ⟨N + 2, 0, none⟩), .pointer (some ⟨N, 0, none⟩)] (encI (m := s.size)) (KeptR N (N + 3)) (fun ys => ys.map Subtype.val = inkL r d s s.size) (fun pre => ∃ k, k ≤ s.size ∧ pre.map Subtype.val = inkL r d s k) 100 w := fun l J Jx W hW hJ _ hY h0 =>
  ink1_in n hn l N r hok d hd s hs J Jx W hJ hY (hC.below hW) h0
set_option maxHeartbeats 1000000 in
theorem ink_in (n : Nat) (r : RibbonD) (d : Int) (s : ByteArray) (w : World) :
    CallsIn Fence.wide n Try.prog 46 #[.agg #[.int .i64 r.spots, .int .i64 r.ink, .int .i64 r.takes], .int .i64 d, .string s] w fun e w' =>
      e = .returned (.func (.func 56) #[] #[.pointer (some ⟨w.heap.size + 1, 0, none⟩), .pointer (some ⟨w.heap.size + 2, 0, none⟩), .pointer (some ⟨w.heap.size, 0, none⟩)]) ∧
      w' = ((w.alloc (.cells #[.int .i64 r.spots, .int .i64 r.ink, .int .i64 r.takes] 25)).alloc (.cells #[.int .i64 d] 2)).alloc (.cells #[.string s] 9) := by
  have hmf : ∀ (fn : Fn) (first cap : Array Value) (w : World), (Instr.makeFunc fn first cap).run Try.prog w = .ok (.func fn first cap) w := fun _ _ _ _ => rfl
  refine callsIn_of_wp Try.func46 rfl trivial ?_ rfl
  simp only [Try.ntmps46, List.size_toArray, List.length_cons, List.length_nil, Nat.reduceAdd, Nat.reduceSub, Array.replicate_succ, Array.replicate_zero, List.push_toArray, List.append_toArray, List.nil_append, List.cons_append]
  gi_wp2
  go_ret
  exact ⟨rfl, rfl⟩
end Go.Proofs.Ytceedmejmmoepaa
