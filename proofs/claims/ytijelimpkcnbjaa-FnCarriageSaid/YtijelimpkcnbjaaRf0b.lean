/- The letters of a row: the iterator's contract for a body that writes a map made ahead of the loop. -/
import Derived.Test.YtijelimpkcnbjaaRf0
namespace Go.Proofs.Ytijelimpkcnbjaa
open Go.RowKit Go.ChangeShapes Go.WideShapes Go.Deep Go.Shelf
set_option linter.unusedVariables false
set_option linter.unusedSimpArgs false
attribute [local go_sem] Oper.semAt_some

/-- Iterators and maps from a block on stand as they stood. -/
structure WalksFrom (B : Nat) (W W' : World) : Prop where
  size : W.heap.size ≤ W'.heap.size
  same : ∀ (k : Nat) (o : Obj), B ≤ k → W.heap[k]? = some o → o.isWalk = true → W'.heap[k]? = some o
theorem WalksFrom.of {B : Nat} {W W' : World} (h : KeepsFrom B W W') : WalksFrom B W W' := ⟨h.size, fun k o hB hk ho => h.same k o hB hk (by cases o <;> first | rfl | cases ho)⟩
theorem walksF_t {B : Nat} {X Y Z : World} (h : WalksFrom B X Y) (k : WalksFrom B Y Z) : WalksFrom B X Z := ⟨Nat.le_trans h.size k.size, fun i o hB hi ho => k.same i o hB (h.same i o hB hi ho) ho⟩
theorem walksF_b {B : Nat} (W : World) (l : Nat) (o o' : Obj) (_ : B ≤ l) (h : W.heap[l]? = some o) (_ : o.isCells = false) (hw : o.isWalk = false) : WalksFrom B W (W.putObj l o') :=
  ⟨by simp, fun k o2 _ hk ho => by
    rw [World.putObj_heap_other (fun e => ?_)]
    · exact hk
    · subst e
      rw [h] at hk
      cases hk
      rw [hw] at ho
      cases ho⟩
set_option maxRecDepth 100000 in
set_option maxHeartbeats 3200000 in
theorem letters1_inB (F : Fence) (n : Nat) (h6 : F.fn 41) (hro : F.round = none) (hn : 1 ≤ n) (l Bn : Nat) (s : ByteArray) (hs30 : s.size ≤ 30) (hasc : ∀ k, (hk : k < s.size) → 32 ≤ (s[k]'hk).toNat ∧ (s[k]'hk).toNat ≤ 126) (J Jx : List Ltr → World → Prop) (W : World) (B0 : Nat) (hB0 : B0 ≤ W.heap.size)
    (hJ : AbidesFrom W.heap.size J)
    (hY : ∀ pre x W, J pre W → pre.length < 30 → YieldAt F (n - 1) Try.prog l (encL x) W fun e W' =>
      (e = .returned (.bool true) ∧ J (pre ++ [x]) W' ∧ WalksFrom B0 W W') ∨ (e = .returned (.bool false) ∧ Jx (pre ++ [x]) W'))
    (hBn : W.cell? ⟨Bn, 0, none⟩ = some (.string s)) (h0 : J [] W) :
    CallsIn F n Try.prog 41 #[.func (.yield l) #[] #[], .pointer (some ⟨Bn, 0, none⟩)] W fun e W' => (∃ v, e = .returned v) ∧
      ((∃ ys : List Ltr, ys.map Ltr.raw = (ltF s s.size).1 ∧ J ys W') ∨ (∃ pre, True ∧ Jx pre W')) := by
  replace hasc := Lib.hid hasc
  refine callsIn_of_wp Try.func41 rfl h6 ?_ hro
  simp only [Try.ntmps41, List.size_toArray, List.length_cons, List.length_nil, Nat.reduceAdd, Nat.reduceSub, Array.replicate_succ, Array.replicate_zero, List.push_toArray, List.append_toArray, List.nil_append, List.cons_append]
  gi_wp2
  have hJ0 : Hid (J [] (W.alloc (.stringIter s 0))) := Lib.hid (hJ [] W _ none h0 (World.grownBy_alloc W _ none) (fun r e => by cases e))
  gi_loopw [3] (fun fr wr => ∃ (pos : Nat) (pre : List Ltr), wr.heap[W.heap.size]? = some (.stringIter s pos) ∧ pos ≤ s.size ∧ pre.map Ltr.raw = (ltF s pos).1 ∧ fr = .int .i64 ((ltF s pos).2 : Int) ∧ J pre wr)
    (fun _ wr => s.size - wr.iterPos W.heap.size)
  case atStart => exact ⟨0, [], World.iter_heap W s 0, by omega, rfl, rfl, hJ0.out⟩
  case round =>
    rename World => wr
    obtain ⟨pos, pre, hit, hps, hpre, rfl, hJs⟩ := hrel
    by_cases hp : pos < s.size
    · have hc2 := hasc.out pos hp
      have hasc1 : (s[pos]'hp).toNat < 128 := by omega
      have hb : bAt s pos = s[pos]'hp := bAt_eq hp
      have hnx : ∀ ty, (Instr.next (.pointer (some ⟨W.heap.size, 0, none⟩)) true ty).run Try.prog wr = _ := fun ty => Lib.run_next_ascii_at wr W.heap.size s pos ty hit hp hasc1
      have hit2 := Lib.iterAt_heap wr W.heap.size s pos (pos + 1) hit
      have hJi : Hid (J pre (wr.iterAt W.heap.size s (pos + 1))) := Lib.hid (hJ pre wr _ (some W.heap.size) hJs (grownBy_putObj' wr W.heap.size _) (fun r e => by cases e; exact ⟨Nat.le_refl _, _, hit, rfl⟩))
      have hip : wr.iterPos W.heap.size = pos := by simp only [World.iterPos, hit]
      have hc0 : (0 : Int) ≤ ((s[pos]'hp).toNat : Int) := Int.natCast_nonneg _
      obtain ⟨hl1, hl2⟩ := ltF_le s pos
      have hpl : pre.length < 30 := by
        have := congrArg List.length hpre
        rw [List.length_map] at this
        omega
      have hpre0 := Lib.hid hpre
      clear hJs hit hpre hJ0
      generalize hwi : wr.iterAt W.heap.size s (pos + 1) = wi at *
      clear hwi
      by_cases h32 : (s[pos]'hp).toNat = 32
      · have g1 : (((s[pos]'hp).toNat : Int) == 32) = true := beq_iff_eq.2 (by omega)
        have g1' : ((s[pos]'hp).toNat == 32) = true := beq_iff_eq.2 h32
        have hn2 : Hid (ltF s (pos + 1) = ltF s pos) := Lib.hid (by rw [ltF, if_pos (by rw [hb]; exact h32)])
        replace h32 := Lib.hid h32
        gi_wp2
        go_roundw
        case rel => exact ⟨pos + 1, pre, hit2, by omega, by rw [hn2.out]; exact hpre0.out, by rw [hn2.out], hJi.out⟩
        case measure => simp only [World.iterPos, hit2] at *; omega
      · have g1 : (((s[pos]'hp).toNat : Int) == 32) = false := beq_eq_false_iff_ne.2 (by omega)
        have g1' : ((s[pos]'hp).toNat == 32) = false := beq_eq_false_iff_ne.2 h32
        have hn2 : Hid (ltF s (pos + 1) = ((ltF s pos).1 ++ [((ltF s pos).2, pos, s[pos]'hp)], pos + 1)) := Lib.hid (by rw [ltF, if_neg (by rw [hb]; exact h32), hb])
        generalize hx : (ltF s pos).2 = fr at *
        obtain ⟨x, hxf, hxc, hxb⟩ : ∃ x : Ltr, x.fr = fr ∧ x.col = pos ∧ x.c = s[pos]'hp := ⟨⟨fr, pos, s[pos]'hp, by omega, by omega, by omega, by omega⟩, rfl, rfl, rfl⟩
        obtain ⟨fn, tmps, assign, body, hy, hR⟩ := hY pre x wi hJi.out hpl
        simp only [encL, hxf, hxc, hxb] at hy
        have hpre2 : Hid ((pre ++ [x]).map Ltr.raw = (ltF s (pos + 1)).1) := Lib.hid (by rw [hn2.out, List.map_append, hpre0.out]; simp [Ltr.raw, hxf, hxc, hxb])
        replace h32 := Lib.hid h32
        replace hx := Lib.hid hx
        replace hxf := Lib.hid hxf
        replace hxc := Lib.hid hxc
        replace hxb := Lib.hid hxb
        have hp64 : (0 : Int) ≤ (pos : Int) := Int.natCast_nonneg _
        gi_wp2
        refine hR.mono ?_
        rintro e W3 (⟨rfl, hJ3, hk3⟩ | ⟨rfl, hJx3⟩)
        · have hit3 := hk3.same _ _ hB0 hit2 rfl
          replace hk3 := Lib.hid hk3
          replace hJ3 := Lib.hid hJ3
          gi_wp2
          go_roundw
          case rel => exact ⟨pos + 1, pre ++ [x], hit3, by omega, hpre2.out, by rw [hn2.out]; go_num, hJ3.out⟩
          case measure => simp only [World.iterPos, hit3] at *; omega
        · gi_wp2
          refine bodyPost_ret (results_none rfl _ _ _) rfl ?_
          exact ⟨⟨_, rfl⟩, .inr ⟨pre ++ [x], trivial, hJx3⟩⟩
    · obtain rfl : pos = s.size := by omega
      have hnx : ∀ ty, (Instr.next (.pointer (some ⟨W.heap.size, 0, none⟩)) true ty).run Try.prog wr = _ := fun ty => Lib.run_next_end_at wr W.heap.size s s.size ty hit hp
      gi_wp2
      go_end0
      exact ⟨⟨_, rfl⟩, .inl ⟨pre, hpre, hJs⟩⟩
/-- The iterator's contract: all letters come, in their order. -/
theorem letters_stopsB (F : Fence) (n : Nat) (h6 : F.fn 41) (hro : F.round = none) (hn : 1 ≤ n) (Bn : Nat) (s : ByteArray) (hs30 : s.size ≤ 30) (hasc : ∀ k, (hk : k < s.size) → 32 ≤ (s[k]'hk).toNat ∧ (s[k]'hk).toNat ≤ 126) (w : World) (hBn : Bn < w.heap.size) (hc : w.cell? ⟨Bn, 0, none⟩ = some (.string s)) :
    SeqStopsK F n Try.prog 41 #[.pointer (some ⟨Bn, 0, none⟩)] encL (WalksFrom w.heap.size) (fun ys => ys.map Ltr.raw = (ltF s s.size).1) (fun _ => True) 30 w := fun l J Jx W hW hJ _ hY h0 =>
  letters1_inB F n h6 hro hn l Bn s hs30 hasc J Jx W w.heap.size hW.size hJ hY ((hW.cell (p := ⟨Bn, 0, none⟩) hBn).trans hc) h0
end Go.Proofs.Ytijelimpkcnbjaa
