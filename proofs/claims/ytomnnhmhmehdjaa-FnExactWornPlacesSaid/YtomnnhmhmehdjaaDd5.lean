/- Corrections: WornPlaces of the program. -/
import Derived.Test.YtomnnhmhmehdjaaDd4
namespace Go.Proofs.Ytomnnhmhmehdjaa
open Go.RowKit Go.ChangeShapes Go.WideShapes Go.Deep
set_option linter.unusedVariables false
set_option linter.unusedSimpArgs false

section
variable {P : Program} {ops : Array Oper} {rest : List Oper} {o : Oper} {a : Act} {Q : Exit → Act → World → Prop}
/-- A load of a whole row, at the operation. -/
theorem wpList_load_is {w : World} (hg : o.guard = none) (x : Operand) (t : TypeId) (hop : o.op = Op.load t x) {p : Addr} {v : Value} (hx : a.eval x = .pointer (some p)) (hrun : (loadVar t p).run P w = .ok v w)
    (hK : wpList P ops Q rest (a.put o.dst v) w) : wpList P ops Q (o :: rest) a w := by
  refine wpList_plain hg fun K' hK' => ?_
  unfold Oper.wp
  simp [execOp, hop, hx, Instr.loadAt, Instr.sureAddr, hrun, Result.andThen]
  exact hK' _ _ hK
end
theorem index60 {DA : Array Value} {q : Nat} (hq : q < 60) {x : Int} (hv : DA[q]? = some (.int .i64 x)) (w : World) : (Instr.index 103 (.agg DA) (.int .i64 (q : Int))).run Try.prog w = .ok (.int .i64 x) w := by
  have h0 : (0 : Int) ≤ (q : Int) := by omega
  have h1 : (q : Int) < 60 := by omega
  have hu := Try.underlying103
  have hz : (sizeOf 2).run Try.prog w = .ok 1 w := Try.sizeOf2 w
  simp [Instr.index, asIntOf, run_underlying hu, hz, h0, hq, part, hv, go_sem, Result.andThen]
theorem load60 {w : World} {R : Nat} (E : Nat → Nat) (h : w.heap[R]? = some (.cells (arr60 E) 103)) :
    (loadVar 103 ⟨R, 0, none⟩).run Try.prog w = .ok (.agg (arr60 E)) w :=
  run_loadVar_row _ _ _ _ _ (0, 0) _ h Try.underlying103 rfl (by rw [arr60_size]; kernel_rfl)
set_option maxRecDepth 100000 in
set_option maxHeartbeats 3200000 in
theorem wo12_impl (A : Option Addr) (n c : Nat) (ps : List ByteArray) (w : World) (h : Strs w A n ps) (hn : n ≤ 1048576) (hg : ∀ x ∈ ps, x.size ≤ maxLen) :
    Calls Try.prog 33 #[.slice A n c] w (IOut (wornR ps) w) := by
  generalize hr : wornR ps = r
  replace hr := Lib.hid hr.symm
  have hl := Lib.hid h.1
  obtain ⟨i0, hi, hz0, hz1, hz2⟩ := info_parts Try.infoI64
  cases h1 : ps.all planB with
  | false =>
    have hres : Hid (r = ([], 7)) := Lib.hid (by rw [hr.out, wornR_no h1])
    have hc := Lib.hid (fun W hW => has_nocor12w A n c ps h1 W hW hn hg)
    clear hg h1 hr
    go_enter Try.func33, Try.ntmps33
    go_wp2_with fail
    refine (hc.out _ h).mono ?_
    rintro e w1 ⟨rfl, hb1⟩
    go_wp2
    go_ret2
    exact IOut.bad hres.out hb1
  | true =>
    have hc := Lib.hid (fun W hW => has_nocor12w A n c ps h1 W hW hn hg)
    by_cases h20 : 20 < n
    · have hres : Hid (r = ([], 2)) := Lib.hid (by rw [hr.out, wornR_many h1 (by rw [hl.out]; exact h20)])
      have g1 : decide ((20 : Int) < (n : Int)) = true := decide_eq_true (by omega)
      replace h20 := Lib.hid h20
      clear hg h1 hr
      go_enter Try.func33, Try.ntmps33
      go_wp2_with fail
      refine (hc.out _ h).mono ?_
      rintro e w1 ⟨rfl, hb1⟩
      go_wp2
      go_ret2
      exact IOut.bad hres.out hb1
    · have hres : Hid (r = (plaL (wornQ ps) 60, 0)) := Lib.hid (by rw [hr.out, wornR_yes h1 (by rw [hl.out]; exact h20)])
      have g1 : decide ((20 : Int) < (n : Int)) = false := decide_eq_false (by omega)
      have hsz := Lib.hid (fun x (hx : x ∈ ps) => planB_size (List.all_eq_true.1 h1 x hx))
      have hcl := Lib.hid (fun k p j a => cntE_le ps k p j a (by rw [hl.out]; omega))
      have hel := Lib.hid (fun k a => Nat.le_trans (eraN_le (ps.take k) a) (show (ps.take k).length ≤ 20 by rw [List.length_take, hl.out]; omega))
      have hend := Lib.hid (fun k p (hp : ps[k]? = some p) a => cntE_end hp a)
      clear hg h1 hr
      go_enter Try.func33, Try.ntmps33
      go_wp2_with fail
      refine (hc.out _ h).mono ?_
      rintro e w1 ⟨rfl, hb1⟩
      have hI := Lib.hid (h.below hb1)
      have hbw1 := Lib.hid hb1
      have hwz1 := hb1.size
      clear hb1 hc h
      go_wp2
      go_loopw [18] (fun i wr => ∃ k : Nat, k ≤ n ∧ i = .int .i64 (k : Int) ∧ wr.heap[w1.heap.size]? = some (.cells (arr60 (fun a => eraN (ps.take k) a)) 103) ∧ Below w1.heap.size w1 wr) (fun i _ => n - (intOf i).toNat)
      case atStart => exact ⟨0, by omega, rfl, (heap_alloc_new _ _).trans (by kernel_rfl), below_a1 _ _⟩
      case round =>
        rename World => wr
        obtain ⟨k, hk, rfl, hA, hbr⟩ := hrel
        by_cases hlt : k < n
        · obtain ⟨b, off, x, rfl, hb, hx, c0⟩ := str_at (hI.out.below hbr) hlt
          have hk0 : (0 : Int) ≤ (k : Int) := by omega
          have hk1 : (k : Int) < (n : Int) := by omega
          have hxz := hsz.out x (List.mem_of_getElem? hx.out)
          have hA' := Lib.hid hA
          have hbr' := Lib.hid hbr
          have hwk : IntKind.i64.wrap ((k : Int) + 1) = ((k + 1 : Nat) : Int) := by rw [IntWalk.i64_in _ (by omega)]; omega
          clear hA hbr
          go_wp2
          go_loopw [24] (fun j wi => ∃ m : Nat, m ≤ x.size ∧ j = .int .i64 (m : Int) ∧ wi.heap[w1.heap.size]? = some (.cells (arr60 (cntE ps k x m)) 103) ∧ Below w1.heap.size w1 wi) (fun j _ => x.size - (intOf j).toNat)
          case atStart => exact ⟨0, by omega, rfl, by rw [arr60_same (F := fun a => eraN (ps.take k) a) (fun a _ => cntE_0 ps k x a)]; exact hA'.out, hbr'.out⟩
          case round =>
            rename World => wi
            obtain ⟨m, hm, rfl, hA, hbi⟩ := hrel
            by_cases hmt : m < x.size
            · have hm0 : (0 : Int) ≤ (m : Int) := by omega
              have hm1 : (m : Int) < (x.size : Int) := by omega
              have hm2 : (m : Int) < 60 := by omega
              have hm3 : m < 60 := by omega
              have hwm : IntKind.i64.wrap ((m : Int) + 1) = ((m + 1 : Nat) : Int) := by rw [IntWalk.i64_in _ (by omega)]; omega
              by_cases h35 : (x[m]'hmt).toNat = 35
              · have y1 : (((x[m]'hmt).toNat : Int) == 35) = true := beq_iff_eq.2 (by omega)
                have y2 : ((x[m]'hmt).toNat == 35) = true := beq_iff_eq.2 h35
                obtain ⟨hh1, hh2⟩ := cntE_hit (ps := ps) (k := k) (p := x) (j := m) (by rw [bAt_eq hmt]; exact h35)
                have hle := hcl.out k x m m
                have hcell := own_cell hA (arr60_at _ hm3)
                have hfr := own_frozen hA m
                have hltA := own_lt hA
                have hset := Lib.hid (arr60_set (cntE ps k x m) (cntE ps k x (m + 1)) hm3 hh1 hh2)
                have hA2 := Lib.hid (set_block12 (i := m) (v := .int .i64 ((cntE ps k x m m + 1 : Nat) : Int)) hA)
                have hb2 : Hid (Below w1.heap.size w1 (wi.setCell ⟨w1.heap.size, m, none⟩ (.int .i64 ((cntE ps k x m m + 1 : Nat) : Int)))) := Lib.hid (hbi.setCell (Nat.le_refl _) _)
                generalize cntE ps k x m m = E0 at *
                have hwe : IntKind.i64.wrap ((E0 : Int) + 1) = ((E0 + 1 : Nat) : Int) := by rw [IntWalk.i64_in _ (by omega)]; omega
                have ec : ((E0 + 1 : Nat) : Int) = (E0 : Int) + 1 := by omega
                rw [ec] at hA2 hb2 hset
                have hfin : Hid ((wi.setCell ⟨w1.heap.size, m, none⟩ (.int .i64 ((E0 : Int) + 1))).heap[w1.heap.size]? = some (.cells (arr60 (cntE ps k x (m + 1))) 103) ∧ Below w1.heap.size w1 (wi.setCell ⟨w1.heap.size, m, none⟩ (.int .i64 ((E0 : Int) + 1)))) := Lib.hid ⟨by rw [hA2.out, hset.out], hb2.out⟩
                clear hh1 hh2 h35 hA hbi hA2 hb2 hset ec
                go_wp2
                go_roundw
                case rel => exact ⟨m + 1, by omega, by go_num, hfin.out⟩
                case measure => simp [intOf]; omega
              · have y1 : (((x[m]'hmt).toNat : Int) == 35) = false := beq_eq_false_iff_ne.2 (by omega)
                have y2 : ((x[m]'hmt).toNat == 35) = false := beq_eq_false_iff_ne.2 h35
                have hms := cntE_miss (ps := ps) (k := k) (p := x) (j := m) (by rw [bAt_eq hmt]; exact h35)
                have hfin : Hid (wi.heap[w1.heap.size]? = some (.cells (arr60 (cntE ps k x (m + 1))) 103) ∧ Below w1.heap.size w1 wi) := Lib.hid ⟨by rw [arr60_same (F := cntE ps k x m) (fun a _ => hms a)]; exact hA, hbi⟩
                clear h35 hA hbi hms
                go_wp2
                go_roundw
                case rel => exact ⟨m + 1, by omega, by go_num, hfin.out⟩
                case measure => simp [intOf]; omega
            · obtain rfl : m = x.size := by omega
              have hfin : Hid (wi.heap[w1.heap.size]? = some (.cells (arr60 (fun a => eraN (ps.take (k + 1)) a)) 103) ∧ Below w1.heap.size w1 wi) := Lib.hid ⟨by rw [← arr60_same (E := cntE ps k x x.size) (fun a _ => hend.out k x hx.out a)]; exact hA, hbi⟩
              clear hA hbi
              go_wp2
              go_roundw
              case rel => exact ⟨k + 1, by omega, by go_num, hfin.out⟩
              case measure => simp [intOf]; omega
        · obtain rfl : k = n := by omega
          have hps : Hid (ps.take k = ps) := Lib.hid (List.take_of_length_le (by rw [hl.out]; exact Nat.le_refl _))
          rw [hps.out] at hA
          have hld := load60 _ hA
          have hltA := own_lt hA
          have hat := Lib.hid (fun a (ha : a < 60) => arr60_at (fun a => eraN ps a) ha)
          have hszA := arr60_size (fun a => eraN ps a)
          have hq := Lib.hid (fun q => plaL_next (wornQ ps) q)
          have hql := Lib.hid (fun q => plaL_len (wornQ ps) q)
          have hwq := Lib.hid (fun a => show wornQ ps a = decide (3 < eraN ps a) from rfl)
          have hbw := Lib.hid (hbw1.out.trans (hbr.mono hwz1))
          have hwz := hbw.out.size
          clear hA hbr hps
          generalize arr60 (fun a => eraN ps a) = DA at *
          go_wp2_with (refine wpList_load_is rfl _ 103 rfl rfl hld ?_)
          clear hld
          go_loopw [8, 39] (fun o a wi => ∃ q m : Nat, q ≤ 60 ∧ m ≤ q ∧ a = .int .i64 (q : Int) ∧ (plaL (wornQ ps) q).length = m ∧ Below w.heap.size w wi ∧ wi.ownsRow w.heap.size 2 1 o m ((plaL (wornQ ps) q).flatMap intC)) (fun _ a _ => 60 - (intOf a).toNat)
          case atStart => exact ⟨0, 0, by omega, by omega, rfl, rfl, hbw.out, owns_nil8 _ _ _⟩
          case round =>
            clear hltA hwz hbw
            rename World => wi
            obtain ⟨q, m, hq60, hm, rfl, hlen, hbi, hrow⟩ := hrel
            have hrl := Lib.hid hrow
            have hwz := hbi.size
            replace hlen := Lib.hid hlen
            clear hrow
            by_cases hqt : q < 60
            · have hq0 : (0 : Int) ≤ (q : Int) := by omega
              have hq1 : (q : Int) < 60 := by omega
              have hwk : IntKind.i64.wrap ((q : Int) + 1) = ((q + 1 : Nat) : Int) := by rw [IntWalk.i64_in _ (by omega)]; omega
              have hv := hat.out q hqt
              have hnx := Lib.hid (hq.out q)
              have hix := index60 hqt hv wi
              clear hv
              have hwqq := Lib.hid (hwq.out q)
              generalize eraN ps q = E0 at *
              by_cases h3 : 3 < E0
              · have g3 : decide ((3 : Int) < (E0 : Int)) = true := decide_eq_true (by omega)
                have hqn : Hid (plaL (wornQ ps) (q + 1) = plaL (wornQ ps) q ++ [(q : Int)]) := Lib.hid (by rw [hnx.out, hwqq.out, decide_eq_true h3, if_pos rfl])
                clear hnx hwqq h3
                go_wp2_with (at_builtin; refine wpList_append_own _ rfl _ _ 42 rfl w.heap.size 2 i0 _ 1 8 Try.underlying42 hi hz0 hz1 hz2 rfl (by decide) _ _ _ rfl (hrl.out.alloc _) ⟨wi.heap.size, 0, none⟩ 1 1 [.int .i64 (q : Int)] rfl rfl (news8 _ _ _) (one8 _) (by unfold maxLen; omega) (by omega) (by simp; omega) ?_)
                intro vq wq hownq hgrq hnilq
                have hgqq := grown_trans (grown_below (below_a1 wi _) _) hgrq
                have hfin : Hid (Below w.heap.size w wq ∧ wq.ownsRow w.heap.size 2 1 vq (m + 1) ((plaL (wornQ ps) (q + 1)).flatMap intC)) := Lib.hid ⟨hbi.grown hgqq hwz (fun j hj => owns_ge8 hrl.out hj), by rw [hqn.out, snoc8]; exact hownq⟩
                have hlq : Hid ((plaL (wornQ ps) (q + 1)).length = m + 1) := Lib.hid (by rw [hqn.out, List.length_append, hlen.out]; rfl)
                clear hownq hgrq hnilq hgqq hrl hbi hlen hix
                go_wp2
                go_roundw
                case rel => exact ⟨q + 1, m + 1, by omega, by omega, by go_num, hlq.out, hfin.out⟩
                case measure => simp [intOf]; omega
              · have g3 : decide ((3 : Int) < (E0 : Int)) = false := decide_eq_false (by omega)
                have hqn : Hid (plaL (wornQ ps) (q + 1) = plaL (wornQ ps) q) := Lib.hid (by rw [hnx.out, hwqq.out, decide_eq_false h3]; simp)
                clear hnx hwqq h3
                go_wp2
                go_roundw
                case rel => exact ⟨q + 1, m, by omega, by omega, by go_num, by rw [hqn.out]; exact hlen.out, hbi, by rw [hqn.out]; exact hrl.out⟩
                case measure => simp [intOf]; omega
            · obtain rfl : q = 60 := by omega
              obtain ⟨A', c', rfl, hO⟩ := owns_i8 hlen.out hrl.out
              have hO2 := Lib.hid hO
              clear hO hlen hrl
              simp only [show ((60 : Nat) : Int) = 60 from rfl]
              go_wp2
              go_ret2
              refine ⟨A', m, c', ?_, by omega, by rw [hres.out]; exact hO2.out, hbi⟩
              rw [hres.out]
              rfl
end Go.Proofs.Ytomnnhmhmehdjaa
