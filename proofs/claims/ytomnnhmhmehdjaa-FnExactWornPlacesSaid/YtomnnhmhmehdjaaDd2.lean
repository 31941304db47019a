/- Corrections: the deeds of a plan, by the program. -/
import Derived.Test.YtomnnhmhmehdjaaDd1
import Derived.Test.YtomnnhmhmehdjaaPp3
namespace Go.Proofs.Ytomnnhmhmehdjaa
open Go.RowKit Go.ChangeShapes Go.WideShapes Go.Deep
set_option linter.unusedVariables false
set_option linter.unusedSimpArgs false

theorem deedV_yes {c : UInt8} (h : planC c = true) : ∃ f, deedV c.toNat = .func (.func f) #[] #[] := by
  simp only [planC, Bool.or_eq_true, decide_eq_true_eq] at h
  unfold deedV
  rcases h with h | h | h
  · rw [if_pos h]; exact ⟨_, rfl⟩
  · rw [if_neg (by omega), if_pos h]; exact ⟨_, rfl⟩
  · rw [if_neg (by omega), if_neg (by omega), if_pos h]; exact ⟨_, rfl⟩
theorem deedV_no {c : UInt8} (h : planC c = false) : deedV c.toNat = .nilFunc := by
  simp only [planC, Bool.or_eq_false_iff, decide_eq_false_iff_not] at h
  unfold deedV
  rw [if_neg h.1, if_neg h.2.1, if_neg h.2.2]
theorem one8f (f : FuncId) : ∀ u ∈ [Value.func (.func f) #[] #[]], u.oneCell' = true := by
  intro u hu
  simp at hu
  subst hu
  rfl
theorem nil_nil (w : World) : (binOp BinOp.eql 101 .nilFunc .nilFunc).run Try.prog w = .ok (.bool true) w := by kernel_rfl
theorem func_nil (f : FuncId) (w : World) : (binOp BinOp.eql 101 (.func (.func f) #[] #[]) .nilFunc).run Try.prog w = .ok (.bool false) w := by kernel_rfl
def deedL (p : ByteArray) (k : Nat) : List Value := (p.data.toList.take k).map fun c => deedV c.toNat
theorem deedL_next {p : ByteArray} {k : Nat} (hk : k < p.size) : deedL p (k + 1) = deedL p k ++ [deedV (p[k]'hk).toNat] := by
  rw [deedL, take8 (byte_of hk), List.map_append, deedL]; rfl
theorem Try.infoDeed : (Try.prog.info? 101).map (fun i => (i.zero, i.size, i.bytes)) = some (some .nilFunc, 1, 8) := by kernel_rfl
set_option maxRecDepth 100000 in
set_option maxHeartbeats 2400000 in
theorem deeds12 (p : ByteArray) {v : Bool} (hv : planB p = v) (w : World) (hp : p.size ≤ maxLen) :
    Calls Try.prog 69 #[.string p] w fun e w' => ∃ x, e = .returned (.tuple #[x, .bool v]) ∧ Below w.heap.size w w' ∧ (v = true → w'.ownsRow w.heap.size 101 1 x p.size (deedL p p.size)) := by
  have hp' := hp
  unfold maxLen at hp'
  by_cases h60 : (60 : Int) < (p.size : Int)
  · have g1 : decide ((60 : Int) < (p.size : Int)) = true := decide_eq_true h60
    have hr : Hid (v = false) := Lib.hid (by rw [← hv, planB, decide_eq_false (by omega), Bool.and_false])
    clear hv
    go_enter Try.func69, Try.ntmps69
    go_wp2
    go_ret2
    exact ⟨_, by rw [hr.out]; rfl, Below.refl _ _, fun h => by rw [hr.out] at h; cases h⟩
  · have g1 : decide ((60 : Int) < (p.size : Int)) = false := decide_eq_false h60
    have hv2 : Hid (v = p.data.toList.all planC) := Lib.hid (by rw [← hv, planB, decide_eq_true (by omega), Bool.and_true])
    have hdb := Lib.hid (fun W => dbs12 W)
    have hDA := Lib.hid (fun c hc => deedArr_at (c := c) hc)
    have hst := Lib.hid (fun (W : World) => run_storeCells_new (P := Try.prog) W 128 Try.zeroCells128 deedArr (by rw [deedArr_size]; kernel_rfl) (by rw [deedArr_size]; kernel_rfl) deedArr_one)
    obtain ⟨DA, hDe⟩ : ∃ DA, deedArr = DA := ⟨_, rfl⟩
    have hDz := deedArr_size
    rw [hDe] at hdb hDA hst hDz
    clear hDe hv
    obtain ⟨i0, hi, hz0, hz1, hz2⟩ := info_parts Try.infoDeed
    go_enter Try.func69, Try.ntmps69
    go_wp2_with fail
    refine (hdb.out _).mono ?_
    rintro e w1 ⟨rfl, hb1⟩
    have hst1 := hst.out w1
    have hbw1 := Lib.hid hb1
    have hwz1 := hb1.size
    clear hb1 hdb
    go_wp2
    go_loopw [2, 3, 5, 14] (fun _ _ o a wr => ∃ k : Nat, k ≤ p.size ∧ a = .int .i64 (k : Int) ∧ (p.data.toList.take k).all planC = true ∧ wr.heap[w1.heap.size]? = some (.cells DA 128) ∧ wr.ownsRow (w1.heap.size + 1) 101 1 o k (deedL p k) ∧ Below w.heap.size w wr) (fun _ _ _ a _ => (p.size - intOf a).toNat)
    case atStart => exact ⟨0, by omega, rfl, rfl, heap_alloc_new _ _, owns_nil8 _ _ _, hbw1.out.alloc hwz1 _⟩
    case round =>
      rename World => wr
      obtain ⟨k, hk, rfl, hall, hA, hrow, hbw⟩ := hrel
      have hrl := Lib.hid hrow
      replace hall := Lib.hid hall
      clear hrow
      by_cases hlt : k < p.size
      · have hkp : (k : Int) < (p.size : Int) := by omega
        have hk0 : (0 : Int) ≤ (k : Int) := by omega
        have hw1 : IntKind.i64.wrap ((k : Int) + 1) = ((k + 1 : Nat) : Int) := by rw [IntWalk.i64_in _ (by omega)]; omega
        have hby := byte_of hlt
        have hc256 : (p[k]'hlt).toNat < 256 := UInt8.toNat_lt _
        have hcell := own_cell hA (hDA.out _ hc256)
        have hltA := own_lt hA
        have hdn := Lib.hid (deedL_next hlt)
        cases hpc : planC (p[k]'hlt) with
        | false =>
          have hr : Hid (v = false) := Lib.hid (by
            rw [hv2.out]
            exact List.all_eq_false.2 ⟨p[k]'hlt, List.mem_of_getElem? hby, by rw [hpc]; exact Bool.false_ne_true⟩)
          rw [deedV_no hpc] at hcell
          clear hdn hby hpc
          have hnn := nil_nil wr
          go_wp2
          go_ret2
          exact ⟨_, by rw [hr.out]; rfl, hbw, fun h => by rw [hr.out] at h; cases h⟩
        | true =>
          obtain ⟨f, hf⟩ := deedV_yes hpc
          rw [hf] at hcell hdn
          have hall' : Hid ((p.data.toList.take (k + 1)).all planC = true) := Lib.hid (by have := hall.out; rw [take8 hby, List.all_append]; simp only [this, List.all_cons, List.all_nil, hpc]; rfl)
          clear hby hpc hf
          have hfn := func_nil f wr
          go_wp2_with (at_builtin; refine wpList_append_own _ rfl _ _ 97 rfl (w1.heap.size + 1) 101 i0 _ 1 8 Try.underlying97 hi hz0 hz1 hz2 rfl (by decide) _ _ _ rfl (hrl.out.alloc _) ⟨wr.heap.size, 0, none⟩ 1 1 [.func (.func f) #[] #[]] rfl rfl (news8 _ _ _) (one8f _) (by unfold maxLen; omega) (by omega) (by simp; omega) ?_)
          intro vq wq hown hgr hnil
          have hgq := grown_trans (grown_below (below_a1 wr _) _) hgr
          have hne := fun (j : Nat) hj => owns_ge8 (g := j) hrl.out hj
          have hfin : Hid ((p.data.toList.take (k + 1)).all planC = true ∧ wq.heap[w1.heap.size]? = some (.cells DA 128) ∧ wq.ownsRow (w1.heap.size + 1) 101 1 vq (k + 1) (deedL p (k + 1)) ∧ Below w.heap.size w wq) :=
            Lib.hid ⟨hall'.out, (hgq.block _ hltA (fun e => by have := hne _ e.symm; omega)).trans hA, by rw [hdn.out]; exact hown, hbw.grown hgq hbw.size (fun j hj => by have := hne j hj; omega)⟩
          clear hown hgr hnil hgq hne hrl hbw hA hall hall' hcell hdn
          go_wp2
          go_roundw
          case rel => exact ⟨k + 1, by omega, by go_num, hfin.out⟩
          case measure => simp [intOf]; omega
      · obtain rfl : k = p.size := by omega
        have hr : Hid (v = true) := Lib.hid (by
          have := hall.out
          rw [List.take_of_length_le (show p.data.toList.length ≤ p.size from Nat.le_refl _)] at this
          rw [hv2.out]; exact this)
        go_wp2
        go_ret2
        exact ⟨_, by rw [hr.out]; rfl, hbw, fun _ => owns_mono12 hrl.out (by omega)⟩
end Go.Proofs.Ytomnnhmhmehdjaa
