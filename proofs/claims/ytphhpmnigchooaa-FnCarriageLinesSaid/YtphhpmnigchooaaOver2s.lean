/- Places with several letters: the program's function. -/
import Derived.Test.YtphhpmnigchooaaZero301
namespace Go.Proofs.Ytphhpmnigchooaa
open Go.RowKit Go.ChangeShapes Go.WideShapes Go.Deep
set_option linter.unusedVariables false
set_option linter.unusedSimpArgs false

theorem zeros : Try.zeroCells46 = Array.replicate 301 (.int .i64 0) := by kernel_rfl
theorem zero_row (w : World) : (w.alloc (.cells Try.zeroCells46 46)).rowIs w.heap.size 46 301 (fun p => .int .i64 ((cntAt [] p : Nat) : Int)) := by
  refine ⟨Try.zeroCells46, heap_alloc_new _ _, by rw [zeros]; simp, fun i hi => ?_⟩
  rw [zeros]
  simp [hi, cntAt]
theorem cnt_take {l : List StruckD} {k : Nat} {x : StruckD} (h : l[k]? = some x) (p : Nat) : cntAt (l.take (k + 1)) p = cntAt (l.take k) p + (if x.place = (p : Int) then 1 else 0) := by
  obtain ⟨h1, rfl⟩ := List.getElem?_eq_some_iff.1 h
  unfold cntAt
  rw [List.take_succ_eq_append_getElem h1, List.countP_append]
  simp [List.countP_cons]
theorem cnt_le (l : List StruckD) (p : Nat) : cntAt l p ≤ l.length := List.countP_le_length
/-- The cells of the counts. -/
def cntCells (l : List StruckD) : List Value := (List.range 301).map fun p => .int .i64 ((cntAt l p : Nat) : Int)
theorem cntCells_at (l : List StruckD) {p : Nat} (h : p < 301) : (cntCells l)[p]? = some (.int .i64 ((cntAt l p : Nat) : Int)) := by
  simp [cntCells, h]
theorem cntCells_len (l : List StruckD) : (cntCells l).length = 301 := by simp [cntCells]
theorem cnt_range {w : World} {R : Nat} {l : List StruckD} (h : w.rowIs R 46 301 (fun p => .int .i64 ((cntAt l p : Nat) : Int))) : w.rangeAt R 0 (cntCells l) := fun j v hv => by
  have hj : j < 301 := by
    have := (List.getElem?_eq_some_iff.1 hv).1
    rwa [cntCells_len] at this
  rw [cntCells_at l hj] at hv
  cases hv
  rw [Nat.zero_add]
  exact h.cell hj
theorem run_index_cnt (l : List StruckD) {p : Nat} (h : p < 301) (W : World) : (Instr.index 46 (.agg (cntCells l).toArray) (.int .i64 (p : Int))).run Try.prog W = .ok (.int .i64 ((cntAt l p : Nat) : Int)) W := by
  have h1 : (0 : Int) ≤ (p : Int) ∧ (p : Int) < ((301 : Nat) : Int) := by omega
  have h2 := cntCells_at l h
  generalize cntCells l = cs at *
  have h3 : cs.toArray[p]? = some (.int .i64 ((cntAt l p : Nat) : Int)) := by simpa using h2
  simp [Instr.index, run_underlying Try.underlying46, asIntOf, h1, Try.sizeOf3, Try.isAgg3, part, go_sem, h2]
  intro h'
  omega
set_option maxRecDepth 100000 in
set_option maxHeartbeats 4000000 in
theorem over_impl (A : Option Addr) (n c : Nat) (xs : List StruckD) (w : World) (h : Strucks w A n xs) (hn : n ≤ 1048576) (hx : ∀ x ∈ xs, x.good) :
    Calls Try.prog 10 #[.slice A n c] w fun e w' => ∃ A' n' c', e = .returned (.tuple #[.slice A' n' c', .int .i64 (overR xs).2]) ∧ n' ≤ 1048576 ∧ OInts w' w.heap.size A' n' (overR xs).1 ∧ Below w.heap.size w w' := by
  obtain ⟨i0, hi, hz0, hz1, hz2⟩ := info_parts Try.infoI64
  cases hl : lineOk xs with
  | false =>
    have hl1 := Lib.hid (fun W (hS : Strucks W A n xs) => line_impl A n c xs W hS hn hx hl)
    rw [overR_no hl]
    clear hl hx
    go_enter Try.func10, Try.ntmps10
    go_wp2_with fail
    refine (hl1.out _ h).mono ?_
    rintro e w1 ⟨rfl, hb1⟩
    go_wp2
    go_ret2
    exact ⟨none, 0, 0, rfl, by omega, .nil_, hb1⟩
  | true =>
    have hl1 := Lib.hid (fun W (hS : Strucks W A n xs) => line_impl A n c xs W hS hn hx hl)
    have hlen : n ≤ 200 := by rw [← h.1]; exact of_decide_eq_true (Bool.and_eq_true _ _ ▸ hl).2
    have hxl : xs.length = n := h.1
    have hpl := Lib.hid (fun s hs => (line_mem hl s hs).1)
    rw [overR_yes hl]
    have hml : manyL xs = [] ++ manyFrom xs (301 - 0) 0 := rfl
    generalize manyL xs = M at *
    replace hml := Lib.hid hml
    clear hl hx
    go_enter Try.func10, Try.ntmps10
    go_wp2_with fail
    refine (hl1.out _ h).mono ?_
    rintro e w1 ⟨rfl, hb1⟩
    have hS := h.below hb1
    have hbb := Lib.hid hb1
    have hz1' := hb1.size
    clear h hb1 hl1
    go_wp2
    go_loopw [15] (fun iv wr => ∃ k : Nat, k ≤ n ∧ iv = .int .i64 k ∧ Below w1.heap.size w1 wr ∧ wr.rowIs w1.heap.size 46 301 (fun p => .int .i64 ((cntAt (xs.take k) p : Nat) : Int))) (fun iv _ => n - (intOf iv).toNat)
    case atStart => exact ⟨0, by omega, rfl, below_a1 _ _, zero_row w1⟩
    case round =>
      obtain ⟨k, hk, rfl, hbw, hrow⟩ := hrel
      by_cases hlt : k < n
      · obtain ⟨b, off, x, rfl, hb, hxs, c0, c1⟩ := struck_at (hS.below hbw) hlt
        have hk0 : (0 : Int) ≤ (k : Int) := Int.natCast_nonneg _
        have hk1 : (k : Int) < (n : Int) := by omega
        obtain ⟨x0, x1⟩ := hpl.out x (List.mem_of_getElem? hxs.out)
        have hct := Lib.hid (cnt_take hxs.out)
        have hcle := cnt_le (xs.take k)
        obtain ⟨place, letter⟩ := x
        simp only at x0 x1 c0 c1
        obtain ⟨p, rfl⟩ : ∃ p : Nat, place = (p : Int) := ⟨place.toNat, by omega⟩
        have hp : p < 301 := by omega
        have r0 := hrow.cell hp
        have z0 := hrow.frozen p
        have hRl := hrow.lt
        have hcb : cntAt (xs.take k) p ≤ 200 := by have := hcle p; simp at this; omega
        have hrs := Lib.hid ((hrow.set p (.int .i64 ((cntAt (xs.take k) p : Nat) + 1 : Int))).congr (g := fun q => .int .i64 ((cntAt (xs.take (k + 1)) q : Nat) : Int)) (fun q hq => by
          rw [hct.out q]
          by_cases e : q = p
          · subst e; simp
          · rw [if_neg e, if_neg (show ¬ ((p : Int) = (q : Int)) by omega)]; simp))
        have hbs := Lib.hid (hbw.setCell (p := ⟨w1.heap.size, p, none⟩) (Nat.le_refl _) (.int .i64 ((cntAt (xs.take k) p : Nat) + 1 : Int)))
        generalize cntAt (xs.take k) p = m at *
        replace hrow := Lib.hid hrow
        clear hcle
        go_wp2
        go_roundw
        case rel => exact ⟨k + 1, by omega, by go_num, hbs.out.step (below_a1 _ _), hrs.out.alloc _⟩
        case measure => simp [intOf]; omega
      · obtain rfl : k = n := by omega
        rw [List.take_of_length_le (by omega)] at hrow
        have hrng := cnt_range hrow
        have hidx := Lib.hid (fun (p : Nat) (h : p < 301) W => run_index_cnt xs h W)
        have hcl := cntCells_len xs
        have hRl := hrow.lt
        generalize cntCells xs = cs at *
        have hinf : (Try.prog.info? 46).map (·.size) = some cs.length := by rw [hcl]; kernel_rfl
        have hwz0 := hbw.size
        replace hrow := Lib.hid hrow
        clear hcl
        replace hrng := Lib.hid hrng
        replace hinf := Lib.hid hinf
        go_wp2_with (refine wpList_load_mid rfl 46 (.tmp 4) rfl w1.heap.size 0 rfl cs (.array 301 3) hrng.out Try.underlying46 rfl hinf.out ?_)
        clear hrng hinf
        have hbw0 := Lib.hid hbw
        rename World => wr
        go_loopw [7, 27] (fun v iv wi => ∃ (q : Nat) (acc : List Int), q ≤ 301 ∧ iv = .int .i64 q ∧ Below wr.heap.size wr wi ∧ wi.ownsRow wr.heap.size 2 1 v acc.length (acc.flatMap intC) ∧ acc.length ≤ q ∧ M = acc ++ manyFrom xs (301 - q) q) (fun _ iv _ => 301 - (intOf iv).toNat)
        case atStart => exact ⟨0, [], by omega, rfl, Below.refl _ _, ⟨rfl, .inl ⟨rfl, rfl⟩⟩, by simp, hml.out⟩
        case round =>
          rename World => wi
          obtain ⟨q, acc, hq, rfl, hbi, hown, hal, he⟩ := hrel
          replace he := Lib.hid he
          have hwz := hbi.size
          by_cases hlq : q < 301
          · have hst := many_step xs hlq
            have hix := hidx.out q hlq
            have hq0 : (0 : Int) ≤ (q : Int) := Int.natCast_nonneg _
            have hq1 : (q : Int) < (301 : Int) := by omega
            have hrl := Lib.hid hown
            by_cases h1 : 1 < cntAt xs q
            · have g1 : decide ((1 : Int) < ((cntAt xs q : Nat) : Int)) = true := decide_eq_true (by omega)
              have hnx : Hid (M = (acc ++ [(q : Int)]) ++ manyFrom xs (301 - (q + 1)) (q + 1)) := Lib.hid (by rw [he.out, hst, if_pos h1]; simp)
              generalize cntAt xs q = m at *
              clear hst h1 hown
              go_wp2_with (at_builtin; refine wpList_append_own _ rfl _ _ 33 rfl wr.heap.size 2 i0 _ 1 8 Try.underlying33 hi hz0 hz1 hz2 rfl (by decide) _ _ _ rfl (hrl.out.alloc _) ⟨wi.heap.size, 0, none⟩ 1 1 [.int .i64 (q : Int)] rfl rfl (news1 _ _ _) (one1 _) (by unfold maxLen; omega) (by omega) (by simp; omega) ?_)
              intro v4 w4 hown4 hgr4 hnil4
              have hgq := grown_trans (grown_below (below_a1 wi _) _) hgr4
              have hrel4 : Hid (w4.ownsRow wr.heap.size 2 1 v4 (acc ++ [(q : Int)]).length ((acc ++ [(q : Int)]).flatMap intC) ∧ Below wr.heap.size wr w4) := Lib.hid ⟨by rw [in_snoc, List.length_append]; exact hown4, hbi.grown hgq hwz (fun j hj => owns_ge3 hrl.out hj)⟩
              clear hown4 hgr4 hnil4 hgq hrl
              go_wp2
              go_roundw
              case rel => exact ⟨q + 1, acc ++ [(q : Int)], by omega, by go_num, hrel4.out.2, hrel4.out.1, by simp; omega, hnx.out⟩
              case measure => simp [intOf]; omega
            · have g1 : decide ((1 : Int) < ((cntAt xs q : Nat) : Int)) = false := decide_eq_false (by omega)
              have hnx : Hid (M = acc ++ manyFrom xs (301 - (q + 1)) (q + 1)) := Lib.hid (by rw [he.out, hst, if_neg h1]; simp)
              generalize cntAt xs q = m at *
              clear hst h1 hown
              go_wp2
              go_roundw
              case rel => exact ⟨q + 1, acc, by omega, by go_num, hbi, hrl.out, by omega, hnx.out⟩
              case measure => simp [intOf]; omega
          · obtain rfl : q = 301 := by omega
            have hM : Hid (acc = M) := Lib.hid (by rw [he.out]; simp [manyFrom])
            obtain ⟨A', c', rfl, hO⟩ := owns_in rfl hown
            have hz1w : w.heap.size ≤ wr.heap.size := Nat.le_trans hz1' hwz0
            have hO2 := Lib.hid (hO.mono (b' := w.heap.size) hz1w)
            clear hO hown
            go_wp2
            go_ret2
            exact ⟨A', acc.length, c', rfl, by omega, by rw [← hM.out]; exact hO2.out, hbb.out.step (hbw0.out.step hbi)⟩
end Go.Proofs.Ytphhpmnigchooaa
