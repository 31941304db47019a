/- Look-ups and stores, at the operation, in maps that are known entry by entry; the program's key of two strings. -/
import Derived.Test.YtndodlfmjdgpcaaKbOk
import Derived.Test.YtndodlfmjdgpcaaMaps
import Derived.Maps.OwnOps
namespace Go.Proofs.Ytndodlfmjdgpcaa
open Go.RowKit Go.ChangeMaps Go.MapKept
set_option linter.unusedVariables false
set_option linter.unusedSimpArgs false

section
variable {κ : Type} [DecidableEq κ] {enc : κ → Value} {P : Program} {ops : Array Oper} {rest : List Oper} {o : Oper} {a : Act} {Q : Exit → Act → World → Prop}
/-- 'v, ok := m[k]', at the operation. -/
theorem wpList_look_is {w : World} (hg : o.guard = none) (m x : Operand) (t kt e : TypeId) (hop : o.op = Op.lookup t m x true) (K : KeyLaw P kt enc) (ht : P.underlying t = some (.map kt e)) {z : Value} (hz : (zeroValue e).run P w = .ok z w)
    {r : Nat} {l : List (κ × Value)} (hm : a.eval m = .map (some r)) (h : MapIs enc w r l) (k : κ) (hx : a.eval x = enc k) {v : Value} {b : Bool} (hv : (valOf k l).getD z = v) (hb : (valOf k l).isSome = b)
    (hK : wpList P ops Q rest (a.put o.dst (.tuple #[v, .bool b])) w) : wpList P ops Q (o :: rest) a w := by
  refine wpList_plain hg fun K' hK' => ?_
  have hrun := h.look K ht hz k
  rw [hv, hb] at hrun
  unfold Oper.wp
  simp [execOp, hop, hm, hx, hrun, Result.andThen]
  exact hK' _ _ hK
theorem wpList_look1_is {w : World} (hg : o.guard = none) (m x : Operand) (t kt e : TypeId) (hop : o.op = Op.lookup t m x false) (K : KeyLaw P kt enc) (ht : P.underlying t = some (.map kt e)) {z : Value} (hz : (zeroValue e).run P w = .ok z w)
    {r : Nat} {l : List (κ × Value)} (hm : a.eval m = .map (some r)) (h : MapIs enc w r l) (k : κ) (hx : a.eval x = enc k) {v : Value} (hv : (valOf k l).getD z = v)
    (hK : wpList P ops Q rest (a.put o.dst v) w) : wpList P ops Q (o :: rest) a w := by
  refine wpList_plain hg fun K' hK' => ?_
  have hrun := h.look1 K ht hz k
  rw [hv] at hrun
  unfold Oper.wp
  simp [execOp, hop, hm, hx, hrun, Result.andThen]
  exact hK' _ _ hK
/-- 'm[k] = v', at the operation, at a key that is not there. -/
theorem wpList_put_is {w : World} (hg : o.guard = none) (m x v : Operand) (t kt e : TypeId) (hop : o.op = Op.mapUpdate t m x v) (K : KeyLaw P kt enc) (ht : P.underlying t = some (.map kt e))
    {r : Nat} {l : List (κ × Value)} (hm : a.eval m = .map (some r)) (h : MapIs enc w r l) (k : κ) (val : Value) (hx : a.eval x = enc k) (hv : a.eval v = val) (hk : valOf k l = none)
    (hK : ∀ w', MapIs enc w' r (l ++ [(k, val)]) → w.grownBy w' (some r) → wpList P ops Q rest (a.put o.dst undef) w') : wpList P ops Q (o :: rest) a w := by
  refine wpList_plain hg fun K' hK' => ?_
  obtain ⟨w', hrun, r1, r2⟩ := h.put K ht k val hk
  unfold Oper.wp
  simp [execOp, hop, hm, hx, hv, hrun, Result.andThen]
  exact hK' _ _ (hK w' r1 r2)
end

theorem strKey : KeyLaw Try.prog 9 Value.string := stringKey Try.underlying9
theorem ov_equal (a b : ByteArray × ByteArray) (w : World) : (Op.equal 109 (pairKey a) (pairKey b)).run Try.prog w = .ok (decide (a = b)) w := by
  have hs : Try.prog.underlying 109 = some (.struct (Try.prog.fieldsOf 109)) := by kernel_rfl
  have h0 : Op.equal 109 (pairKey a) (pairKey b) = Op.equalIn 10000 109 (pairKey a) (pairKey b) := by
    simp [Op.equal, Op.maxDepth]
  rw [h0, show (10000 : Nat) = 9998 + 1 + 1 from rfl, pairKey, pairKey, run_equalIn_struct _ _ _ _ _ hs (by kernel_rfl)]
  have hf : (Try.prog.fieldsOf 109).toList = (match Try.prog.underlying 109 with | some (.struct fs) => fs.toList | _ => []) := by kernel_rfl
  rw [hf, Try.underlying109]
  simp [Op.eqFields, part, run_sizeOf, go_sem, run_equalIn_string _ _ _ _ _ Try.underlying9]
  have e (x y : ByteArray) : (x.toList = y.toList) = (x = y) := propext ⟨fun h => by
    rw [ByteArray.toList_eq, ByteArray.toList_eq] at h
    exact ByteArray.ext (Array.toList_inj.1 h), fun h => by rw [h]⟩
  obtain ⟨a1, a2⟩ := a
  obtain ⟨b1, b2⟩ := b
  simp only [e, Prod.mk.injEq]
  by_cases h1 : a1 = b1 <;> by_cases h2 : a2 = b2 <;> simp [h1, h2]
theorem findNow_agg (fs : Array Field) (k : ByteArray × ByteArray) : ∀ es : List MapEntry, es ≠ [] → Instr.findNow (.struct fs) (pairKey k) es 0 = none
  | [], h => absurd rfl h
  | e :: es, _ => by
    unfold Instr.findNow
    rfl
theorem ovKey : KeyLaw Try.prog 109 pairKey := by
  refine ⟨fun b k w => ?_, fun k es l w hl => ?_⟩
  · rw [show (10000 : Nat) = 9998 + 1 + 1 from rfl, pairKey]
    unfold Instr.checkKey
    simp only [Sem.run_bind, run_underlying Try.underlying109, Result.andThen]
    have h9 (a : ByteArray) : (Instr.checkKey b 9999 9 (.string a)).run Try.prog w = .ok () w := by
      rw [show (9999 : Nat) = 9998 + 1 from rfl]
      unfold Instr.checkKey
      simp only [Sem.run_bind, run_underlying Try.underlying9, Result.andThen]
      rfl
    simp [part, go_sem, h9, Result.andThen]
  · have h1 := findAsking_pair ov_equal l es 0 k w hl
    by_cases he : es = []
    · subst he
      cases l with
      | nil => simp [Instr.findKey, run_underlying Try.underlying109, Instr.findNow, findAt]
      | cons _ _ => cases hl
    · simp [Instr.findKey, run_underlying Try.underlying109, findNow_agg _ _ _ he, h1]

/-- The bytes of a text from k on lie between lo and hi. -/
def bytesIn (lo hi : Nat) (s : ByteArray) : Bool := s.data.toList.all fun c => decide (lo ≤ c.toNat) && decide (c.toNat ≤ hi)
theorem bytesIn_no {lo hi : Nat} {s : ByteArray} {k : Nat} (hk : k < s.size) (h : ¬ (lo ≤ (s[k]'hk).toNat ∧ (s[k]'hk).toNat ≤ hi)) : bytesIn lo hi s = false := by
  unfold bytesIn
  rw [List.all_eq_false]
  refine ⟨s.data.toList[k]'hk, List.getElem_mem _, ?_⟩
  intro h2
  simp only [Bool.and_eq_true, decide_eq_true_eq] at h2
  exact h h2
theorem bytesIn_yes {lo hi : Nat} {s : ByteArray} (h : ∀ k (hk : k < s.size), lo ≤ (s[k]'hk).toNat ∧ (s[k]'hk).toNat ≤ hi) : bytesIn lo hi s = true := by
  unfold bytesIn
  rw [List.all_eq_true]
  intro x hx
  obtain ⟨i, hi', rfl⟩ := List.getElem_of_mem hx
  have := h i hi'
  simp only [Bool.and_eq_true, decide_eq_true_eq]
  exact this

theorem hasBytes_any (s : ByteArray) (lo hi : Nat) (most : Int) (v : Bool) (hv : (decide ((s.size : Int) ≤ most) && bytesIn lo hi s) = v) (w : World) (hs : s.size ≤ maxLen) :
    Calls Try.prog 110 #[.string s, .int .u8 lo, .int .u8 hi, .int .i64 most] w fun e w' => e = .returned (.bool v) ∧ w = w' := by
  unfold maxLen at hs
  by_cases hm : (s.size : Int) ≤ most
  · have hres : Hid (bytesIn lo hi s = v) := Lib.hid (by rw [← hv, decide_eq_true hm, Bool.true_and])
    have hg : decide (most < (s.size : Int)) = false := decide_eq_false (by omega)
    clear hv hm
    go_enter Try.func110, Try.ntmps110
    go_wp2
    go_loop [9, 16] (fun _ i => ∃ k : Nat, k ≤ s.size ∧ i = .int .i64 k ∧ ∀ j (hj : j < s.size), j < k → lo ≤ (s[j]'hj).toNat ∧ (s[j]'hj).toNat ≤ hi) (fun _ i => s.size - (intOf i).toNat)
    case atStart => exact ⟨0, by omega, rfl, fun j hj h => absurd h (by omega)⟩
    case round =>
      obtain ⟨k, hk, rfl, hall⟩ := hrel
      replace hall := Lib.hid hall
      by_cases hlt : k < s.size
      · by_cases h1 : lo ≤ (s[k]'hlt).toNat
        · have g1 : decide ((s[k]'hlt).toNat < lo) = false := decide_eq_false (by omega)
          by_cases h2 : (s[k]'hlt).toNat ≤ hi
          · have g2 : decide (hi < (s[k]'hlt).toNat) = false := decide_eq_false (by omega)
            have hnext : Hid (∀ j (hj : j < s.size), j < k + 1 → lo ≤ (s[j]'hj).toNat ∧ (s[j]'hj).toNat ≤ hi) := Lib.hid fun j hj h => by
              rcases Nat.lt_or_ge j k with h' | h'
              · exact hall.out j hj h'
              · obtain rfl : j = k := by omega
                exact ⟨h1, h2⟩
            clear h1 h2
            go_wp2
            go_round
            case rel => exact ⟨k + 1, by omega, by go_num, hnext.out⟩
            case measure => simp [intOf]; omega
          · have g2 : decide (hi < (s[k]'hlt).toNat) = true := decide_eq_true (by omega)
            have hr := Lib.hid (hres.out.symm.trans (bytesIn_no hlt fun h => h2 h.2))
            clear h1 h2
            go_wp2
            go_ret
            exact ⟨ret_bo hr.out.symm, rfl⟩
        · have g1 : decide ((s[k]'hlt).toNat < lo) = true := decide_eq_true (by omega)
          have hr := Lib.hid (hres.out.symm.trans (bytesIn_no hlt fun h => h1 h.1))
          clear h1
          go_wp2
          go_ret
          exact ⟨ret_bo hr.out.symm, rfl⟩
      · have hr := Lib.hid (hres.out.symm.trans (bytesIn_yes fun j hj => hall.out j hj (by omega)))
        go_wp2
        go_ret
        exact ⟨ret_bo hr.out.symm, rfl⟩
  · have hr : Hid (v = false) := Lib.hid (by rw [← hv, decide_eq_false hm, Bool.false_and])
    have hg : decide (most < (s.size : Int)) = true := decide_eq_true (by omega)
    clear hv hm
    go_enter Try.func110, Try.ntmps110
    go_wp2
    go_ret
    exact ⟨ret_bo hr.out.symm, rfl⟩
theorem isLet_in {s : ByteArray} (h : s.size = 1) : isLet s = bytesIn 33 126 s := by
  obtain ⟨⟨l⟩⟩ := s
  match l, h with
  | [c], _ => simp [isLet, bytesIn]
theorem isLetter_any (s : ByteArray) (v : Bool) (hv : isLet s = v) (w : World) (hs : s.size ≤ maxLen) :
    Calls Try.prog 74 #[.string s] w fun e w' => e = .returned (.bool v) ∧ w = w' := by
  have hs' := hs
  unfold maxLen at hs'
  by_cases h1 : s.size = 1
  · have h1' : ((s.size : Int) == 1) = true := beq_iff_eq.2 (by omega)
    have hc := Lib.hid (hasBytes_any s 33 126 1 v (by rw [← hv, isLet_in h1, decide_eq_true (by omega), Bool.true_and]) w hs)
    clear h1 hv
    go_enter Try.func74, Try.ntmps74
    go_wp2_with (go_at_call 110; refine hc.out.mono ?_; rintro e w' ⟨rfl, rfl⟩)
    go_ret
    exact ⟨rfl, rfl⟩
  · have h1' : ((s.size : Int) == 1) = false := beq_eq_false_iff_ne.2 (by omega)
    have hr := Lib.hid (hv.symm.trans (isLet_not h1))
    clear h1 hv
    go_enter Try.func74, Try.ntmps74
    go_wp2_with fail
    go_ret
    exact ⟨ret_bo hr.out.symm, rfl⟩
end Go.Proofs.Ytndodlfmjdgpcaa
