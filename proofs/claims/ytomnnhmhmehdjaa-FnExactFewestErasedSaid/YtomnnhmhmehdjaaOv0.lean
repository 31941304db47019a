/- Corrections: rules as entries of two maps, looked up by pairs of letters. -/
import Derived.Test.YtomnnhmhmehdjaaMaps
import Derived.Test.YtomnnhmhmehdjaaMapOps
import Derived.Test.YtomnnhmhmehdjaaCo7
import Derived.WideKeyEntry
namespace Go.Proofs.Ytomnnhmhmehdjaa
open Go.RowKit Go.ChangeShapes Go.WideShapes Go.Deep Go.ChangeMaps Go.MapKept
set_option linter.unusedVariables false
set_option linter.unusedSimpArgs false
set_option linter.unusedSectionVars false

/-- The list with a key's value set: at its first entry, or behind all of them. -/
def setL {κ α : Type} [DecidableEq κ] (k : κ) (v : α) : List (κ × α) → List (κ × α)
  | [] => [(k, v)]
  | x :: r => if k = x.1 then (x.1, v) :: r else x :: setL k v r
theorem setL_val {κ : Type} [DecidableEq κ] (k j : κ) (v : Value) : ∀ l : List (κ × Value), valOf j (setL k v l) = if j = k then some v else valOf j l
  | [] => by
    unfold setL valOf
    split
    · rfl
    · rfl
  | x :: r => by
    by_cases h : k = x.1
    · rw [setL, if_pos h, valOf]
      by_cases hj : j = k
      · rw [if_pos hj, if_pos (hj.trans h)]
      · have hjx : ¬ j = x.1 := fun e => hj (e.trans h.symm)
        rw [if_neg hj, if_neg hjx, valOf, if_neg hjx]
    · have ih := setL_val k j v r
      rw [setL, if_neg h, valOf, valOf]
      by_cases hj : j = x.1
      · have : ¬ j = k := fun e => h (e.symm.trans hj)
        rw [if_pos hj, if_pos hj, if_neg this]
      · rw [if_neg hj, if_neg hj, ih]
theorem setL_new {κ : Type} [DecidableEq κ] (k : κ) (v : Value) : ∀ l : List (κ × Value), valOf k l = none → setL k v l = l ++ [(k, v)]
  | [], _ => rfl
  | x :: r, h => by
    rw [valOf] at h
    by_cases hk : k = x.1
    · rw [if_pos hk] at h; cases h
    · rw [if_neg hk] at h
      rw [setL, if_neg hk, setL_new k v r h, List.cons_append]
/-- Where a key is found. -/
theorem findAt_set {κ : Type} [DecidableEq κ] (k : κ) (v : Value) : ∀ (l : List (κ × Value)) (i : Nat), (findAt k l i = none ∧ valOf k l = none) ∨
    ∃ (j : Nat) (u : Value), findAt k l i = some (i + j, u) ∧ l[j]? = some (k, u) ∧ setL k v l = l.set j (k, v)
  | [], i => .inl ⟨rfl, rfl⟩
  | x :: r, i => by
    by_cases h : k = x.1
    · refine .inr ⟨0, x.2, ?_, ?_, ?_⟩
      · simp [findAt, h]
      · simp [h]
      · simp [setL, h]
    · rcases findAt_set k v r (i + 1) with ⟨h1, h2⟩ | ⟨j, u, h1, h2, h3⟩
      · refine .inl ⟨?_, ?_⟩
        · rw [findAt, if_neg h]; exact h1
        · rw [valOf, if_neg h]; exact h2
      · refine .inr ⟨j + 1, u, ?_, ?_, ?_⟩
        · rw [findAt, if_neg h, h1, show i + (j + 1) = i + 1 + j by omega]
        · simpa using h2
        · rw [setL, if_neg h, h3]; rfl
set_option maxRecDepth 100000 in
/-- A store of any key. -/
theorem MapIs.set {κ : Type} [DecidableEq κ] {enc : κ → Value} {P : Program} {w : World} {r : Nat} {l : List (κ × Value)} {t kt e : TypeId} (h : MapIs enc w r l) (K : KeyLaw P kt enc) (ht : P.underlying t = some (.map kt e)) (k : κ) (v : Value)
    (hst : ∀ W : World, (Instr.keyThatStays (enc k) (enc k)).run P W = .ok (enc k) W) :
    ∃ w', (Instr.mapUpdate t (.map (some r)) (enc k) v).run P w = .ok () w' ∧ MapIs enc w' r (setL k v l) ∧ w.grownBy w' (some r) := by
  rcases findAt_set k v l 0 with ⟨f1, f2⟩ | ⟨j, u, f1, f2, f3⟩
  · rw [setL_new k v l f2]
    exact h.put K ht k v f2
  · obtain ⟨es, c, hb, hl, hbn, hnd⟩ := h
    have h1 := K.check false k w
    have h2 := K.find k es.toList l w hl
    rw [f1] at h2
    simp only [Nat.zero_add] at h2
    have hll := congrArg List.length hl
    simp only [List.length_map] at hll
    have hj : j < l.length := (List.getElem?_eq_some_iff.1 f2).1
    obtain ⟨e0, he0⟩ : ∃ e0, es.toList[j]? = some e0 := ⟨_, List.getElem?_eq_getElem (by omega)⟩
    have hev : (e0.key, e0.val) = (enc k, u) := by
      have h5 : (es.toList.map (fun e => (e.key, e.val)))[j]? = (l.map (fun x => (enc x.1, x.2)))[j]? := by rw [hl]
      rw [List.getElem?_map, he0, List.getElem?_map, f2] at h5
      simpa using h5
    have hk0 : e0.key = enc k := (Prod.mk.inj hev).1
    have hj2 : es[j]? = some e0 := by simpa using he0
    have hst' := hst w
    have hmod : (es.modify j (fun e => { e with key := enc k, val := v })).toList = es.toList.set j ⟨enc k, v, e0.born⟩ := by
      apply List.ext_getElem?
      intro i
      rw [Array.toList_modify, List.getElem?_modify, List.getElem?_set]
      by_cases hij : j = i
      · subst hij
        have : j < es.toList.length := by omega
        have h6 : j < es.size := by simpa using this
        rw [he0]
        simp [h6]
      · simp [hij]
    have hr : r < w.heap.size := (Array.getElem?_eq_some_iff.1 hb).1
    refine ⟨setBlock w r (.map (es.modify j (fun e => { e with key := enc k, val := v })) c), ?_, ⟨_, _, heap_setBlock_same hb _, ?_, ?_, ?_⟩, ⟨rfl, rfl, rfl, by simp [setBlock], fun i _ hi => heap_setBlock_other hb _ (fun e => hi (by rw [e]))⟩⟩
    · simp [Instr.mapUpdate, run_underlying ht, MapKept.run_getObj_map hb, h1, h2, hj2, hk0, hst', MapKept.run_setObj_map _ hb, Result.andThen, setBlock]
    · rw [hmod, f3, List.map_set, List.map_set, hl]
    · intro x hx
      rw [hmod] at hx
      rcases List.mem_or_eq_of_mem_set hx with hx | rfl
      · exact hbn x hx
      · exact hbn e0 (List.mem_of_getElem? he0)
    · rw [hmod, List.map_set]
      have : (es.toList.map (·.born)).set j e0.born = es.toList.map (·.born) := by
        apply List.ext_getElem?
        intro i
        rw [List.getElem?_set]
        by_cases hij : j = i
        · subst hij
          have h6 : j < es.toList.length := by omega
          have h7 : j < es.size := by simpa using h6
          rw [List.getElem?_map, he0]
          simp [h7]
        · simp [hij]
      show ((es.toList.map (·.born)).set j e0.born).Nodup
      rw [this]
      exact hnd
/-- 'm[k] = v', at the operation, at any key. -/
theorem wpList_set_is {κ : Type} [DecidableEq κ] {enc : κ → Value} {P : Program} {ops : Array Oper} {rest : List Oper} {o : Oper} {a : Act} {Q : Exit → Act → World → Prop}
    {w : World} (hg : o.guard = none) (m x v : Operand) (t kt e : TypeId) (hop : o.op = Op.mapUpdate t m x v) (K : KeyLaw P kt enc) (ht : P.underlying t = some (.map kt e))
    {r : Nat} {l : List (κ × Value)} (hm : a.eval m = .map (some r)) (h : MapIs enc w r l) (k : κ) (val : Value) (hx : a.eval x = enc k) (hv : a.eval v = val)
    (hst : ∀ W : World, (Instr.keyThatStays (enc k) (enc k)).run P W = .ok (enc k) W)
    (hK : ∀ w', MapIs enc w' r (setL k val l) → w.grownBy w' (some r) → wpList P ops Q rest (a.put o.dst undef) w') : wpList P ops Q (o :: rest) a w := by
  refine wpList_plain hg fun K' hK' => ?_
  obtain ⟨w', hrun, r1, r2⟩ := h.set K ht k val hst
  unfold Oper.wp
  simp [execOp, hop, hm, hx, hv, hrun, Result.andThen]
  exact hK' _ _ (hK w' r1 r2)

def bpV (p : UInt8 × UInt8) : Value := .agg #[.int .u8 (p.1.toNat : Int), .int .u8 (p.2.toNat : Int)]
theorem bp_stays {P : Program} (k : UInt8 × UInt8) (w : World) : (Instr.keyThatStays (bpV k) (bpV k)).run P w = .ok (bpV k) w := by
  have hs : Instr.sameBits 10000 (bpV k) (bpV k) = true := by
    rw [show (10000 : Nat) = 9998 + 1 + 1 from rfl, bpV]
    simp [Instr.sameBits]
  simp [Instr.keyThatStays, hs]
theorem findAsking_bp {P : Program} {kt : TypeId} (heq : ∀ (a b : UInt8 × UInt8) (w : World), (Op.equal kt (bpV a) (bpV b)).run P w = .ok (decide (a = b)) w) :
    ∀ (l : List ((UInt8 × UInt8) × Value)) (es : List MapEntry) (i : Nat) (k : UInt8 × UInt8) (w : World), es.map (fun e => (e.key, e.val)) = l.map (fun x => (bpV x.1, x.2)) → (Instr.findAsking kt (bpV k) es i).run P w = .ok (findAt k l i) w
  | [], [], _, _, _, _ => by simp [Instr.findAsking, findAt]
  | [], _ :: _, _, _, _, h => by cases h
  | _ :: _, [], _, _, _, h => by cases h
  | x :: l, e :: es, i, k, w, h => by
    simp only [List.map_cons, List.cons.injEq, Prod.mk.injEq] at h
    obtain ⟨⟨h1, h2⟩, h3⟩ := h
    have ih := findAsking_bp heq l es (i + 1) k w h3
    unfold Instr.findAsking findAt
    rw [h1, h2]
    by_cases hk : k = x.1
    · simp [heq, hk, Result.andThen]
    · simp [heq, hk, Result.andThen, ih]
theorem findNow_bp (fs : Array Field) (k : UInt8 × UInt8) : ∀ es : List MapEntry, es ≠ [] → Instr.findNow (.struct fs) (bpV k) es 0 = none
  | [], h => absurd rfl h
  | e :: es, _ => by
    unfold Instr.findNow
    rfl
theorem lay_equal (a b : UInt8 × UInt8) (w : World) : (Op.equal 122 (bpV a) (bpV b)).run Try.prog w = .ok (decide (a = b)) w := by
  have hs : Try.prog.underlying 122 = some (.struct (Try.prog.fieldsOf 122)) := by kernel_rfl
  have h0 : Op.equal 122 (bpV a) (bpV b) = Op.equalIn 10000 122 (bpV a) (bpV b) := by
    simp [Op.equal, Op.maxDepth]
  rw [h0, show (10000 : Nat) = 9998 + 1 + 1 from rfl, bpV, bpV, run_equalIn_struct _ _ _ _ _ hs (by kernel_rfl)]
  have hf : (Try.prog.fieldsOf 122).toList = (match Try.prog.underlying 122 with | some (.struct fs) => fs.toList | _ => []) := by kernel_rfl
  rw [hf, Try.underlying122]
  obtain ⟨a1, a2⟩ := a
  obtain ⟨b1, b2⟩ := b
  have hi : ∀ (m : Nat) (x y : UInt8) (W : World), (Op.equalIn (m + 1) 5 (.int .u8 (x.toNat : Int)) (.int .u8 (y.toNat : Int))).run Try.prog W = .ok (decide (x = y)) W := by
    intro m x y W
    rw [run_equalIn_int W m 5 .u8 .u8 _ _ Try.underlying5]
    rw [show ((x.toNat : Int) == (y.toNat : Int)) = decide (x = y) from by
      rw [Bool.eq_iff_iff]
      simp only [beq_iff_eq, decide_eq_true_eq]
      exact ⟨fun e => UInt8.toNat_inj.1 (by omega), fun e => by rw [e]⟩]
  simp [Op.eqFields, part, run_sizeOf, go_sem, hi]
  by_cases h1 : a1 = b1 <;> by_cases h2 : a2 = b2 <;> simp [h1, h2]
theorem layKey : KeyLaw Try.prog 122 bpV := by
  refine ⟨fun b k w => ?_, fun k es l w hl => ?_⟩
  · rw [show (10000 : Nat) = 9998 + 1 + 1 from rfl, bpV]
    unfold Instr.checkKey
    simp only [Sem.run_bind, run_underlying Try.underlying122, Result.andThen]
    have h9 (a : Int) : (Instr.checkKey b 9999 5 (.int .u8 a)).run Try.prog w = .ok () w := by
      rw [show (9999 : Nat) = 9998 + 1 from rfl]
      unfold Instr.checkKey
      simp only [Sem.run_bind, run_underlying Try.underlying5, Result.andThen]
      rfl
    simp [part, go_sem, h9, Result.andThen]
  · have h1 := findAsking_bp lay_equal l es 0 k w hl
    by_cases he : es = []
    · subst he
      cases l with
      | nil => simp [Instr.findKey, run_underlying Try.underlying122, Instr.findNow, findAt]
      | cons _ _ => cases hl
    · simp [Instr.findKey, run_underlying Try.underlying122, findNow_bp _ _ _ he, h1]
theorem chg_equal (a b : UInt8 × UInt8) (w : World) : (Op.equal 124 (bpV a) (bpV b)).run Try.prog w = .ok (decide (a = b)) w := by
  have hs : Try.prog.underlying 124 = some (.struct (Try.prog.fieldsOf 124)) := by kernel_rfl
  have h0 : Op.equal 124 (bpV a) (bpV b) = Op.equalIn 10000 124 (bpV a) (bpV b) := by
    simp [Op.equal, Op.maxDepth]
  rw [h0, show (10000 : Nat) = 9998 + 1 + 1 from rfl, bpV, bpV, run_equalIn_struct _ _ _ _ _ hs (by kernel_rfl)]
  have hf : (Try.prog.fieldsOf 124).toList = (match Try.prog.underlying 124 with | some (.struct fs) => fs.toList | _ => []) := by kernel_rfl
  rw [hf, Try.underlying124]
  obtain ⟨a1, a2⟩ := a
  obtain ⟨b1, b2⟩ := b
  have hi : ∀ (m : Nat) (x y : UInt8) (W : World), (Op.equalIn (m + 1) 5 (.int .u8 (x.toNat : Int)) (.int .u8 (y.toNat : Int))).run Try.prog W = .ok (decide (x = y)) W := by
    intro m x y W
    rw [run_equalIn_int W m 5 .u8 .u8 _ _ Try.underlying5]
    rw [show ((x.toNat : Int) == (y.toNat : Int)) = decide (x = y) from by
      rw [Bool.eq_iff_iff]
      simp only [beq_iff_eq, decide_eq_true_eq]
      exact ⟨fun e => UInt8.toNat_inj.1 (by omega), fun e => by rw [e]⟩]
  simp [Op.eqFields, part, run_sizeOf, go_sem, hi]
  by_cases h1 : a1 = b1 <;> by_cases h2 : a2 = b2 <;> simp [h1, h2]
theorem chgKey : KeyLaw Try.prog 124 bpV := by
  refine ⟨fun b k w => ?_, fun k es l w hl => ?_⟩
  · rw [show (10000 : Nat) = 9998 + 1 + 1 from rfl, bpV]
    unfold Instr.checkKey
    simp only [Sem.run_bind, run_underlying Try.underlying124, Result.andThen]
    have h9 (a : Int) : (Instr.checkKey b 9999 5 (.int .u8 a)).run Try.prog w = .ok () w := by
      rw [show (9999 : Nat) = 9998 + 1 from rfl]
      unfold Instr.checkKey
      simp only [Sem.run_bind, run_underlying Try.underlying5, Result.andThen]
      rfl
    simp [part, go_sem, h9, Result.andThen]
  · have h1 := findAsking_bp chg_equal l es 0 k w hl
    by_cases he : es = []
    · subst he
      cases l with
      | nil => simp [Instr.findKey, run_underlying Try.underlying124, Instr.findNow, findAt]
      | cons _ _ => cases hl
    · simp [Instr.findKey, run_underlying Try.underlying124, findNow_bp _ _ _ he, h1]

/-- The entries of the map of what is seen. -/
def seenE (ps : List OverD) : List ((UInt8 × UInt8) × Value) := ps.map fun x => ((bAt x.under 0, bAt x.top 0), byteV (bAt x.seen 0))
/-- The entries of the map of the least tops: one rule more. -/
def topStep (l : List ((UInt8 × UInt8) × Value)) (x : OverD) : List ((UInt8 × UInt8) × Value) :=
  match valOf (bAt x.under 0, bAt x.seen 0) l with
  | none => setL (bAt x.under 0, bAt x.seen 0) (byteV (bAt x.top 0)) l
  | some (.int _ n) => if ((bAt x.top 0).toNat : Int) < n then setL (bAt x.under 0, bAt x.seen 0) (byteV (bAt x.top 0)) l else l
  | some _ => l
def topE (ps : List OverD) : List ((UInt8 × UInt8) × Value) := ps.foldl topStep []
theorem seenE_next {ps : List OverD} {k : Nat} {x : OverD} (h : ps[k]? = some x) : seenE (ps.take (k + 1)) = seenE (ps.take k) ++ [((bAt x.under 0, bAt x.top 0), byteV (bAt x.seen 0))] := by
  rw [seenE, take8 h, List.map_append, seenE]; rfl
theorem topE_next {ps : List OverD} {k : Nat} {x : OverD} (h : ps[k]? = some x) : topE (ps.take (k + 1)) = topStep (topE (ps.take k)) x := by
  rw [topE, take8 h, List.foldl_append, topE]; rfl
theorem seenE_val : ∀ (ps : List OverD) (u t : UInt8), (∀ x ∈ ps, (bAt x.seen 0).toNat ≠ 0) →
    valOf (u, t) (seenE ps) = if (seenL ps u t).toNat = 0 then none else some (byteV (seenL ps u t))
  | [], u, t, _ => by
    rw [seenE, List.map_nil, valOf, seenL]; rfl
  | x :: r, u, t, h => by
    have ih := seenE_val r u t (fun y hy => h y (List.mem_cons_of_mem _ hy))
    have hx := h x List.mem_cons_self
    have e : seenE (x :: r) = ((bAt x.under 0, bAt x.top 0), byteV (bAt x.seen 0)) :: seenE r := rfl
    rw [e, valOf, seenL]
    by_cases hm : bAt x.under 0 = u ∧ bAt x.top 0 = t
    · obtain ⟨rfl, rfl⟩ := hm
      have hy : bAt x.under 0 = bAt x.under 0 ∧ bAt x.top 0 = bAt x.top 0 := ⟨rfl, rfl⟩
      rw [if_pos rfl, if_pos hy, if_neg hx]
    · have hn : ¬ (u, t) = (bAt x.under 0, bAt x.top 0) := fun hh => hm ⟨(Prod.mk.inj hh).1.symm, (Prod.mk.inj hh).2.symm⟩
      rw [if_neg hn, if_neg hm, ih]
/-- The least top that is told, of what is there and of the rules. -/
theorem topE_val : ∀ (ps : List OverD) (l : List ((UInt8 × UInt8) × Value)) (u s b : UInt8), (∀ x ∈ ps, (bAt x.top 0).toNat ≠ 0) →
    valOf (u, s) l = (if b.toNat = 0 then none else some (byteV b)) →
    valOf (u, s) (ps.foldl topStep l) = if (topL b ps u s).toNat = 0 then none else some (byteV (topL b ps u s))
  | [], l, u, s, b, _, hl => by rw [List.foldl_nil, topL]; exact hl
  | x :: r, l, u, s, b, h, hl => by
    have hx := h x List.mem_cons_self
    rw [List.foldl_cons, topL]
    refine topE_val r _ u s _ (fun y hy => h y (List.mem_cons_of_mem _ hy)) ?_
    by_cases hm : bAt x.under 0 = u ∧ bAt x.seen 0 = s
    · obtain ⟨rfl, rfl⟩ := hm
      unfold topStep
      rw [hl]
      by_cases hb : b.toNat = 0
      · rw [if_pos hb]
        simp only [true_and]
        have hy : b.toNat = 0 ∨ (bAt x.top 0).toNat < b.toNat := .inl hb
        rw [setL_val, if_pos rfl, if_pos hy, if_neg hx]
      · rw [if_neg hb]
        simp only [byteV, true_and]
        by_cases hlt : (bAt x.top 0).toNat < b.toNat
        · have hy : b.toNat = 0 ∨ (bAt x.top 0).toNat < b.toNat := .inr hlt
          rw [if_pos (by omega), setL_val, if_pos rfl, if_pos hy, if_neg hx]
        · have hno : ¬ (b.toNat = 0 ∨ (bAt x.top 0).toNat < b.toNat) := by omega
          rw [if_neg (by omega), hl, if_neg hno]; rfl
    · have hn : ¬ (u, s) = (bAt x.under 0, bAt x.seen 0) := fun hh => hm ⟨(Prod.mk.inj hh).1.symm, (Prod.mk.inj hh).2.symm⟩
      have hno : ¬ (bAt x.under 0 = u ∧ bAt x.seen 0 = s ∧ (b.toNat = 0 ∨ (bAt x.top 0).toNat < b.toNat)) := fun hh => hm ⟨hh.1, hh.2.1⟩
      rw [if_neg hno]
      unfold topStep
      split
      · rw [setL_val, if_neg hn, hl]
      · split
        · rw [setL_val, if_neg hn, hl]
        · exact hl
      · exact hl
theorem topE_get (ps : List OverD) (u s : UInt8) (h : ∀ x ∈ ps, (bAt x.top 0).toNat ≠ 0) : valOf (u, s) (topE ps) = if (topL 0 ps u s).toNat = 0 then none else some (byteV (topL 0 ps u s)) :=
  topE_val ps [] u s 0 h rfl
end Go.Proofs.Ytomnnhmhmehdjaa
