/- The program's search in breadth: its walk. -/
import Derived.Test.YtijelimpkcnbjaaBf2
import Derived.Laws.EntriesVeiled
namespace Go.Proofs.Ytijelimpkcnbjaa
open Go.RowKit Go.ChangeShapes Go.WideShapes Go.Deep
set_option linter.unusedVariables false
set_option linter.unusedSimpArgs false

theorem leastN {P : Nat → Prop} : ∀ n, P n → ∃ m, P m ∧ ∀ k, P k → m ≤ k := fun n => by
  induction n using Nat.strongRecOn with
  | _ n ih =>
    intro hn
    by_cases h : ∃ m, m < n ∧ P m
    · obtain ⟨m, hm, hp⟩ := h
      exact ih m hm hp
    · exact ⟨n, hn, fun k hk => Nat.le_of_not_lt fun hlt => h ⟨k, hlt, hk⟩⟩
theorem isFar_ex (ps : List Int) {t : Nat} (ht : t ≤ 30) : ∃ D, IsFar ps t D := by
  have hl : ∀ a, a ≤ 30 → ∃ m, (∃ p, IsWay ps a p t ∧ p.length = m) ∧ ∀ k, (∃ p, IsWay ps a p t ∧ p.length = k) → m ≤ k := fun a ha => by
    obtain ⟨p, hp⟩ := reach30 ps ha t ht
    exact leastN (P := fun m => ∃ p, IsWay ps a p t ∧ p.length = m) p.length ⟨p, hp, rfl⟩
  let F : Nat → Nat := fun a => if h : a ≤ 30 then (hl a h).choose else 0
  have hF : ∀ a, a ≤ 30 → (∃ p, IsWay ps a p t ∧ p.length = F a) ∧ ∀ k, (∃ p, IsWay ps a p t ∧ p.length = k) → F a ≤ k := fun a ha => by
    have e : F a = (hl a ha).choose := dif_pos ha
    rw [e]
    exact (hl a ha).choose_spec
  refine ⟨fun a => (F a : Int), ?_, ?_, ?_, fun a ha => by omega⟩
  · have := (hF t ht).2 0 ⟨[], ⟨fun k hk => (by cases hk), rfl⟩, rfl⟩
    show (F t : Int) = 0
    omega
  · intro a ha k hk n hn
    obtain ⟨p, hp, hpl⟩ := (hF n (next_le hn)).1
    have := (hF a ha).2 (p.length + 1) ⟨k :: p, ⟨fun j hj => by
      rcases List.mem_cons.1 hj with rfl | h1
      · exact hk
      · exact hp.1 j h1, by simp only [endK, stK_of hn, Option.bind_some]; exact hp.2⟩, rfl⟩
    show (F a : Int) ≤ (F n : Int) + 1
    omega
  · intro a ha hne
    obtain ⟨p, hp, hpl⟩ := (hF a ha).1
    cases p with
    | nil => exact absurd (by simpa [endK] using hp.2) hne
    | cons k p =>
      have h2 := hp.2
      simp only [endK] at h2
      cases hs : stK ps a k with
      | none => rw [hs] at h2; cases h2
      | some n =>
        rw [hs] at h2
        obtain ⟨hn, hn30⟩ := stK_some hs
        have hk := hp.1 k (by simp)
        have h3 := (hF n hn30).2 p.length ⟨p, ⟨fun j hj => hp.1 j (by simp [hj]), h2⟩, rfl⟩
        obtain ⟨p', hp', hpl'⟩ := (hF n hn30).1
        have h4 := (hF a ha).2 (p'.length + 1) ⟨k :: p', ⟨fun j hj => by
          rcases List.mem_cons.1 hj with rfl | h1
          · exact hk
          · exact hp'.1 j h1, by simp only [endK, hs, Option.bind_some]; exact hp'.2⟩, rfl⟩
        rw [List.length_cons] at hpl
        refine ⟨k, hk, n, hn, ?_⟩
        show (F a : Int) = (F n : Int) + 1
        omega
theorem lit31 {s : Nat} (h : s ≤ 30) : [Value.bool false, Value.bool false, Value.bool false, Value.bool false, Value.bool false, Value.bool false, Value.bool false, Value.bool false, Value.bool false, Value.bool false, Value.bool false, Value.bool false, Value.bool false, Value.bool false, Value.bool false, Value.bool false, Value.bool false, Value.bool false, Value.bool false, Value.bool false, Value.bool false, Value.bool false, Value.bool false, Value.bool false, Value.bool false, Value.bool false, Value.bool false, Value.bool false, Value.bool false, Value.bool false, Value.bool false][s]? = some (Value.bool false) := by
  have : (List.replicate 31 (Value.bool false))[s]? = some (Value.bool false) := by rw [List.getElem?_eq_getElem (by simp; omega), List.getElem_replicate]
  exact this

abbrev lits31 : List Value := [Value.bool false, Value.bool false, Value.bool false, Value.bool false, Value.bool false, Value.bool false, Value.bool false, Value.bool false, Value.bool false, Value.bool false, Value.bool false, Value.bool false, Value.bool false, Value.bool false, Value.bool false, Value.bool false, Value.bool false, Value.bool false, Value.bool false, Value.bool false, Value.bool false, Value.bool false, Value.bool false, Value.bool false, Value.bool false, Value.bool false, Value.bool false, Value.bool false, Value.bool false, Value.bool false, Value.bool false]
theorem lit31s (s j : Nat) (b : Bool) (h : ((List.replicate 31 false).set s true)[j]? = some b) : ((lits31.set s (.bool true)).toArray)[j]? = some (.bool b) := by
  have e : lits31 = (List.replicate 31 false).map Value.bool := rfl
  rw [e, List.getElem?_toArray, ← List.map_set, List.getElem?_map, h]
  rfl
def lenV : Value → Nat
  | .slice _ n _ => n
  | _ => 0
open Classical in
/-- What is left to do: columns that are not reached count twice. -/
noncomputable def mesB (N : Nat) (q : Value) (w : World) : Nat := 2 * ((List.range 31).countP fun j => decide (w.cell? ⟨N + 1, j, none⟩ = some (.bool false))) + lenV q
theorem count_two : ∀ l : List Bool, l.count true + l.count false = l.length
  | [] => rfl
  | true :: r => by have := count_two r; simp; omega
  | false :: r => by have := count_two r; simp; omega
theorem mes_eq {ps : List Int} {N s t : Nat} {qv : Value} {D Q : List Arr} {R : List Bool} {w : World} (hF : Fnd ps s (D ++ Q) R) (h : PlanM N s t qv Q R w) : mesB N qv w = 62 - 2 * D.length - Q.length ∧ D.length + Q.length ≤ 31 := by
  have hfew := hF.few
  have hc := count_two R
  have hm := hF.many
  rw [hF.len] at hc
  rw [List.length_append] at hm hfew
  have hq : lenV qv = Q.length := by
    obtain ⟨g, off, cap, rfl, _⟩ := h.queue.form
    rfl
  have hR : R = (List.range 31).map fun j => R.getD j true := by
    apply List.ext_getElem
    · simp [hF.len]
    · intro i h1 h2
      simp [List.getD, h1]
  have hcnt : ((List.range 31).countP fun j => (@decide (w.cell? ⟨N + 1, j, none⟩ = some (.bool false)) (Classical.propDecidable _))) = R.count false := by
    rw [hR, List.count, List.countP_map]
    refine List.countP_congr fun j hj => ?_
    have hj : j < R.length := by rw [hF.len]; simpa using hj
    have := h.reach j R[j] (by simp [hj])
    rw [this]
    simp [List.getD, hj]
  refine ⟨?_, by omega⟩
  unfold mesB
  rw [hq]
  have e : ∀ x y : Nat, x = R.count false → 2 * x + Q.length = 62 - 2 * D.length - Q.length := fun x _ hx => by omega
  refine e _ 0 (Eq.trans ?_ hcnt)
  exact List.countP_congr fun j _ => by simp

theorem newsA2 {w : World} {v1 v2 : Value} {B : Nat} (T : TypeId) (hB : B = w.heap.size) : ∀ j u, [v1, v2][j]? = some u → (w.alloc (.cells #[v1, v2] T)).cell? ((⟨B, 0, none⟩ : Addr).add j) = some u := by
  intro j u hj
  subst hB
  match j, hj with
  | 0, hj => cases hj; exact cell_new (by simp [Addr.add]) rfl
  | 1, hj => cases hj; exact cell_new (by simp [Addr.add]) rfl
  | j + 2, hj => simp at hj
theorem oneA2 (x : Int) (y : ByteArray) : ∀ u ∈ [Value.int .i64 x, .string y], u.oneCell' = true := by
  intro u hu
  simp only [List.mem_cons, List.not_mem_nil, or_false] at hu
  rcases hu with rfl | rfl <;> rfl
theorem Try.infoArr11 : (Try.prog.info? 66).map (fun i => (i.zero, i.size, i.bytes)) = some (some (.agg #[.int .i64 0, .string ⟨#[]⟩]), 2, 24) := by kernel_rfl
set_option maxRecDepth 100000 in
set_option maxHeartbeats 2400000 in
theorem planW11 (ps : List Int) (g B : Nat) (A : Option Addr) (n c s t : Nat) (hs : s ≤ 30) (ht : t ≤ 30) (hst : stB ps = true) (w : World) (hM : MovsAt w ps g B A n c) {P : ByteArray} (hP : (⟨(wayP ps t s).toArray⟩ : ByteArray) = P) :
    Calls Try.prog 25 #[.agg #[.int .i64 s, .int .i64 t], .slice (some ⟨g, 0, none⟩) 3 3] w fun e w' => e = .returned (.string P) ∧ Below w.heap.size w w' := by
  replace hst := Lib.hid hst
  have hP0 := Lib.hid hP
  clear hP
  have hs0 : (0 : Int) ≤ (s : Int) := Int.natCast_nonneg _
  have hs1 : (s : Int) < 31 := by omega
  have hlit := lit31 hs
  obtain ⟨i0, hi, hz0, hz1, hz2⟩ := info_parts Try.infoArr11
  go_enter Try.func25, Try.ntmps25
  go_wp2
  go_loopw [6] (fun q wr => ∃ D Q R, Bfs ps s D Q R ∧ PlanM w.heap.size s t q Q R wr ∧ Below w.heap.size w wr ∧ ¬ ∃ r, (t, r) ∈ D) (fun q wr => mesB w.heap.size q wr)
  case atStart =>
    have hbx : Below w.heap.size w (w.alloc (.cells #[.int .i64 (s : Int), .int .i64 (t : Int)] 48)) := below_a1 _ _
    refine ⟨[], [(s, [])], (List.replicate 31 false).set s true, Bfs.init hs, ⟨?_, ?_, ?_, ?_, ?_, ?_⟩, ?_, fun hx => by simp at hx⟩
    · exact cell_on (cell_on (cell_new rfl rfl) _) _
    · exact cell_on (cell_on (cell_new rfl rfl) _) _
    · intro j b hj
      refine cell_on (cell_new (by simp) ?_) _
      exact lit31s s j b hj
    · intro j
      rw [(below_a1 _ _).frozen (p := ⟨w.heap.size + 1, j, none⟩) (by simp)]
      have h3 := heap_alloc_new (w.alloc (.cells #[.int .i64 (s : Int), .int .i64 (t : Int)] 48)) (.cells ((lits31.set s (.bool true)).toArray) 64)
      rw [World.size_alloc] at h3
      exact own_frozen h3 j
    · simp
    · have := Mid.new (w := (w.alloc (.cells #[.int .i64 (s : Int), .int .i64 (t : Int)] 48)).alloc (.cells ((lits31.set s (.bool true)).toArray) 64)) (size := 2) (n := 1) (T := 66) (cs := [.int .i64 (s : Int), .string ⟨#[]⟩]) rfl
      rw [World.size_alloc, World.size_alloc] at this
      exact this
    · exact (hbx.alloc (by simp) _).alloc (by simp; omega) _
  case round =>
    obtain ⟨D, Q, R, hB, hM1, hb1, hD⟩ := hrel
    clear hlit hs0 hs1
    cases Q with
    | nil => exact (hB.more hs ht hD).elim
    | cons x Q =>
      obtain ⟨v, p⟩ := x
      have hmes0 := Lib.hid (mes_eq hB.fnd hM1)
      obtain ⟨gq, off, cap, rfl, hgq, hcap, q0, q1⟩ := hM1.front
      have hM2 := hM1.pop
      have hT := hB.pop
      have hvp := hB.fnd.best (v, p) (by simp)
      have c0 := hM1.box0
      have c1 := hM1.box1
      have hcap1 : 1 ≤ cap := by omega
      have hlen : 0 < Q.length + 1 := by omega
      have hN1 := hM1.rlt
      have hN0 : w.heap.size < wr.heap.size := by omega
      by_cases hvt : v = t
      · subst hvt
        have hr : Hid (bytK p = P) := Lib.hid (by
          obtain ⟨F, hF⟩ := isFar_ex ps ht
          have h1 := (best_way hs ht hF hvp.1).1
          rw [← hP0.out, bytK, h1])
        have e1 : ((v : Int) == (v : Int)) = true := by simp
        replace hcap := Lib.hid hcap
        go_wp2
        go_ret
        exact ⟨ret_st hr.out, hb1.alloc (by omega) _⟩
      · have e1 : ((v : Int) == (t : Int)) = false := beq_eq_false_iff_ne.2 (by omega)
        have e2 : (v == t) = false := beq_eq_false_iff_ne.2 hvt
        replace hvt := Lib.hid hvt
        have hD2 : Hid (¬ ∃ r, (t, r) ∈ D ++ [(v, p)]) := Lib.hid (by
          rintro ⟨r, hr⟩
          rcases List.mem_append.1 hr with h1 | h1
          · exact hD ⟨r, h1⟩
          · simp at h1; exact hvt.out h1.1.symm)
        have hv30 : v ≤ 30 := hvp.2
        have hpl : (bytK p).size ≤ 30 := by
          obtain ⟨F, hF⟩ := isFar_ex ps hv30
          have h1 : (p.length : Int) = farP ps v s := (best_way hs hv30 hF hvp.1).2
          have h2 := hF.far hv30
          have h3 := far_30 hv30 h2.zero h2.step hs
          rw [bytK_size]
          omega
        replace hb1 := Lib.hid hb1
        clear hB hD hM1 hvp
        by_cases hc1 : cap = 1
        · subst hc1
          rw [if_pos rfl] at hM2
          clear hcap1 hcap
          go_wp2
          go_loopw [6, 36] (fun q i wq => ∃ (j : Nat) (Q' : List Arr) (R' : List Bool), i = .int .i64 (j : Int) ∧ j ≤ 3 ∧ Bft ps s D v p j Q' R' ∧ PlanM w.heap.size s t q Q' R' wq ∧ Below w.heap.size w wq ∧ wq.cell? ⟨wr.heap.size, 0, none⟩ = some (.int .i64 (v : Int)) ∧ wq.cell? ⟨wr.heap.size, 1, none⟩ = some (.string (bytK p)) ∧ wr.heap.size < wq.heap.size ∧ q.ownBlock ≠ some wr.heap.size ∧ Q.length ≤ Q'.length) (fun _ i _ => 3 - (intOf i).toNat)
          case atStart =>
            refine ⟨0, Q, R, rfl, by omega, hT, hM2.below (below_a1 _ _), hb1.out.alloc (by omega) _, cell_new rfl rfl, cell_new rfl rfl, by simp, ?_, Nat.le_refl _⟩
            intro e
            have e2 : gq = wr.heap.size := by cases e; rfl
            omega
          case round =>
            rename World => wq
            obtain ⟨j, Q', R', rfl, hj3, hT', hM', hbq, d0, d1, dlt, hqn, hQl⟩ := hrel
            have hNq1 := hM'.rlt
            have hNq0 : w.heap.size < wq.heap.size := by omega
            have hmov := hM.below (hbq.mono (Nat.le_refl _))
            replace hbq := Lib.hid hbq
            by_cases hj : j < 3
            · have m0 := hmov.c0
              have m1 := hmov.c1
              have m2 := hmov.c2
              have m3 := hmov.c3
              have m4 := hmov.c4
              have m5 := hmov.c5
              have hgq' : g < wq.heap.size := World.block_lt_of_cell? _ _ m0
              have hRl := hT'.fnd.len
              replace hRl := Lib.hid hRl
              rcases (show j = 0 ∨ j = 1 ∨ j = 2 by omega) with rfl | rfl | rfl
              · clear m2 m3 m4 m5
                cases hk : stK ps v 0 with
                | none =>
                  obtain ⟨m, hmn⟩ := mvR_none hst.out hv30 (by omega) hk
                  have hcl := Lib.hid (fun W (hb : Below wq.heap.size wq W) => (mv11_0 g B A n c ps v W (hmov.below hb) hst.out hv30 hmn))
                  have hT2 := Lib.hid (hT'.skip (fun m hm => by rw [hk] at hm; cases hm))
                  clear hmn hk
                  replace hmov := Lib.hid hmov
                  go_wp2_with fail
                  refine (hcl.out _ (below_a1 _ _)).mono ?_
                  rintro e w1 ⟨rfl, rfl⟩
                  go_wp2
                  go_roundw
                  case rel => exact ⟨0 + 1, Q', R', by go_num, by omega, hT2.out, hM'.below (below_a1 _ _), hbq.out.alloc (by omega) _, cell_on d0 _, cell_on d1 _, by simp; omega, hqn, hQl⟩
                  case measure => simp [intOf]
                | some x =>
                  have hcl := Lib.hid (fun W (hb : Below wq.heap.size wq W) => (mv11_0 g B A n c ps v W (hmov.below hb) hst.out hv30 (mvR_some hst.out hv30 (by omega) hk)))
                  obtain ⟨hx1, hx30⟩ := stK_some hk
                  replace hx1 := Lib.hid hx1
                  have hx0 : (0 : Int) ≤ (x : Int) := Int.natCast_nonneg _
                  have hx31 : (x : Int) < 31 := by omega
                  have hxl : x < R'.length := by rw [hRl.out]; omega
                  have hrx := hM'.reach x R'[x] (by simp [hxl])
                  have hfx := hM'.rfz x
                  have hbits : Hid (R'[x]? = some R'[x]) := Lib.hid (by simp [hxl])
                  cases hbx : R'[x] with
                  | true =>
                    rw [hbx] at hrx hbits
                    have hT2 := Lib.hid (hT'.skip (fun m hm => by rw [hk] at hm; cases hm; exact hbits.out))
                    clear hbx hk
                    replace hmov := Lib.hid hmov
                    go_wp2_with fail
                    refine (hcl.out _ (below_a1 _ _)).mono ?_
                    rintro e w1 ⟨rfl, rfl⟩
                    go_wp2
                    go_roundw
                    case rel => exact ⟨0 + 1, Q', R', by go_num, by omega, hT2.out, hM'.below (below_a1 _ _), hbq.out.alloc (by omega) _, cell_on d0 _, cell_on d1 _, by simp; omega, hqn, hQl⟩
                    case measure => simp [intOf]
                  | false =>
                    rw [hbx] at hrx hbits
                    have hT2 := Lib.hid (hT'.hit (by omega) hk hbits.out)
                    have hMm := Lib.hid (hM'.mark hxl)
                    clear hbx hk
                    replace hmov := Lib.hid hmov
                    have hcv := fun (W : World) => run_convert_int_string (P := Try.prog) W 21 9 .i32 35 (by kernel_rfl) Try.underlying9
                    rw [show Utf8.encode 35 = (⟨#[mvB 0]⟩ : ByteArray) from by decide] at hcv
                    go_wp2_with fail
                    refine (hcl.out _ (below_a1 _ _)).mono ?_
                    rintro e w1 ⟨rfl, rfl⟩
                    have hsz : wr.heap.size ≠ w.heap.size + 1 := by omega
                    have hown : Hid (Mid (((wq.setCell ⟨w.heap.size + 1, x, none⟩ (.bool true)).alloc (.cells #[.int .i32 35, .func (.func 34) #[] #[.pointer (some ⟨B, 0, none⟩)]] 70)).alloc (.cells #[.int .i64 (x : Int), .string (bytK p ++ ⟨#[mvB 0]⟩)] 66)) (w.heap.size + 2) 2 u6 Q'.length (Q'.flatMap arrC)) := Lib.hid ((hMm.out.below (below_a1 _ _)).below (below_a1 _ _)).queue
                    have hfit : Q'.length ≤ 31 := by have := hT'.fnd.few; simp only [List.length_append, List.length_cons] at this; omega
                    go_wp2_with (at_builtin; refine wpList_append_mid _ rfl (.tmp 57) (.tmp 66) 67 rfl (w.heap.size + 2) 66 i0 _ 2 24 Try.underlying67 hi hz0 hz1 hz2 rfl (by decide) u6 Q'.length (Q'.flatMap arrC) rfl hown.out ⟨wq.heap.size + 1, 0, none⟩ 1 [.int .i64 (x : Int), .string (bytK p ++ ⟨#[mvB 0]⟩)] rfl rfl (newsA2 _ (by simp)) (oneA2 _ _) (by unfold maxLen; omega) (by omega) (by simp; omega) (fun q5 w5 hown5 hg5 hor5 => ?_))
                    have ecs : (Q' ++ [(x, p ++ [0])]).flatMap arrC = Q'.flatMap arrC ++ [.int .i64 (x : Int), .string (bytK p ++ ⟨#[mvB 0]⟩)] := by rw [List.flatMap_append, bytK_snoc]; simp [arrC]
                    have hMf : Hid (PlanM w.heap.size s t q5 (Q' ++ [(x, p ++ [0])]) (R'.set x true) w5) := Lib.hid (((hMm.out.below (below_a1 _ _)).below (below_a1 _ _)).queue' hg5 (by rw [ecs, List.length_append]; exact hown5))
                    have hbf : Hid (Below w.heap.size w w5) := Lib.hid (Below.grown (((hbq.out.setCell (p := ⟨w.heap.size + 1, x, none⟩) (by show w.heap.size ≤ w.heap.size + 1; omega) _).alloc (by simp; omega) _).alloc (by simp; omega) _) hg5 (by simp; omega) (fun q hq => by have := (hown.out.lt q hq).1; omega))
                    have hset : ∀ o, (⟨w.heap.size + 1, x, none⟩ : Addr) ≠ ⟨wr.heap.size, o, none⟩ := fun o e => hsz (congrArg Addr.block e).symm
                    have hd0 : Hid (w5.cell? ⟨wr.heap.size, 0, none⟩ = some (.int .i64 (v : Int))) := Lib.hid (hg5.cell (cell_on (cell_on ((World.cell?_setCell_other _ _ _ _ (hset 0)).trans d0) _) _) (fun e => hqn e.symm))
                    have hd1 : Hid (w5.cell? ⟨wr.heap.size, 1, none⟩ = some (.string (bytK p))) := Lib.hid (hg5.cell (cell_on (cell_on ((World.cell?_setCell_other _ _ _ _ (hset 1)).trans d1) _) _) (fun e => hqn e.symm))
                    have hw5 : wr.heap.size < w5.heap.size := by have := hg5.size; simp at this; omega
                    have hq5 : Hid (q5.ownBlock ≠ some wr.heap.size) := Lib.hid (fun e => by
                      rcases hor5 _ e with h1 | ⟨h1, _⟩
                      · exact hqn h1
                      · simp at h1; omega)
                    clear hg5 hor5 hown5 hown ecs hset hcv hMm
                    go_wp2
                    go_roundw
                    case rel => exact ⟨0 + 1, Q' ++ [(x, p ++ [0])], R'.set x true, by go_num, by omega, hT2.out, hMf.out, hbf.out, hd0.out, hd1.out, hw5, hq5.out, by rw [List.length_append]; omega⟩
                    case measure => simp [intOf]
              · clear m0 m1 m4 m5
                cases hk : stK ps v 1 with
                | none =>
                  obtain ⟨m, hmn⟩ := mvR_none hst.out hv30 (by omega) hk
                  have hcl := Lib.hid (fun W (hb : Below wq.heap.size wq W) => (mv11_1 ps v W hv30 hmn))
                  have hT2 := Lib.hid (hT'.skip (fun m hm => by rw [hk] at hm; cases hm))
                  clear hmn hk
                  replace hmov := Lib.hid hmov
                  go_wp2_with fail
                  refine (hcl.out _ (below_a1 _ _)).mono ?_
                  rintro e w1 ⟨rfl, rfl⟩
                  go_wp2
                  go_roundw
                  case rel => exact ⟨1 + 1, Q', R', by go_num, by omega, hT2.out, hM'.below (below_a1 _ _), hbq.out.alloc (by omega) _, cell_on d0 _, cell_on d1 _, by simp; omega, hqn, hQl⟩
                  case measure => simp [intOf]
                | some x =>
                  have hcl := Lib.hid (fun W (hb : Below wq.heap.size wq W) => (mv11_1 ps v W hv30 (mvR_some hst.out hv30 (by omega) hk)))
                  obtain ⟨hx1, hx30⟩ := stK_some hk
                  replace hx1 := Lib.hid hx1
                  have hx0 : (0 : Int) ≤ (x : Int) := Int.natCast_nonneg _
                  have hx31 : (x : Int) < 31 := by omega
                  have hxl : x < R'.length := by rw [hRl.out]; omega
                  have hrx := hM'.reach x R'[x] (by simp [hxl])
                  have hfx := hM'.rfz x
                  have hbits : Hid (R'[x]? = some R'[x]) := Lib.hid (by simp [hxl])
                  cases hbx : R'[x] with
                  | true =>
                    rw [hbx] at hrx hbits
                    have hT2 := Lib.hid (hT'.skip (fun m hm => by rw [hk] at hm; cases hm; exact hbits.out))
                    clear hbx hk
                    replace hmov := Lib.hid hmov
                    go_wp2_with fail
                    refine (hcl.out _ (below_a1 _ _)).mono ?_
                    rintro e w1 ⟨rfl, rfl⟩
                    go_wp2
                    go_roundw
                    case rel => exact ⟨1 + 1, Q', R', by go_num, by omega, hT2.out, hM'.below (below_a1 _ _), hbq.out.alloc (by omega) _, cell_on d0 _, cell_on d1 _, by simp; omega, hqn, hQl⟩
                    case measure => simp [intOf]
                  | false =>
                    rw [hbx] at hrx hbits
                    have hT2 := Lib.hid (hT'.hit (by omega) hk hbits.out)
                    have hMm := Lib.hid (hM'.mark hxl)
                    clear hbx hk
                    replace hmov := Lib.hid hmov
                    have hcv := fun (W : World) => run_convert_int_string (P := Try.prog) W 21 9 .i32 60 (by kernel_rfl) Try.underlying9
                    rw [show Utf8.encode 60 = (⟨#[mvB 1]⟩ : ByteArray) from by decide] at hcv
                    go_wp2_with fail
                    refine (hcl.out _ (below_a1 _ _)).mono ?_
                    rintro e w1 ⟨rfl, rfl⟩
                    have hsz : wr.heap.size ≠ w.heap.size + 1 := by omega
                    have hown : Hid (Mid (((wq.setCell ⟨w.heap.size + 1, x, none⟩ (.bool true)).alloc (.cells #[.int .i32 60, .func (.func 36) #[] #[]] 70)).alloc (.cells #[.int .i64 (x : Int), .string (bytK p ++ ⟨#[mvB 1]⟩)] 66)) (w.heap.size + 2) 2 u6 Q'.length (Q'.flatMap arrC)) := Lib.hid ((hMm.out.below (below_a1 _ _)).below (below_a1 _ _)).queue
                    have hfit : Q'.length ≤ 31 := by have := hT'.fnd.few; simp only [List.length_append, List.length_cons] at this; omega
                    go_wp2_with (at_builtin; refine wpList_append_mid _ rfl (.tmp 57) (.tmp 66) 67 rfl (w.heap.size + 2) 66 i0 _ 2 24 Try.underlying67 hi hz0 hz1 hz2 rfl (by decide) u6 Q'.length (Q'.flatMap arrC) rfl hown.out ⟨wq.heap.size + 1, 0, none⟩ 1 [.int .i64 (x : Int), .string (bytK p ++ ⟨#[mvB 1]⟩)] rfl rfl (newsA2 _ (by simp)) (oneA2 _ _) (by unfold maxLen; omega) (by omega) (by simp; omega) (fun q5 w5 hown5 hg5 hor5 => ?_))
                    have ecs : (Q' ++ [(x, p ++ [1])]).flatMap arrC = Q'.flatMap arrC ++ [.int .i64 (x : Int), .string (bytK p ++ ⟨#[mvB 1]⟩)] := by rw [List.flatMap_append, bytK_snoc]; simp [arrC]
                    have hMf : Hid (PlanM w.heap.size s t q5 (Q' ++ [(x, p ++ [1])]) (R'.set x true) w5) := Lib.hid (((hMm.out.below (below_a1 _ _)).below (below_a1 _ _)).queue' hg5 (by rw [ecs, List.length_append]; exact hown5))
                    have hbf : Hid (Below w.heap.size w w5) := Lib.hid (Below.grown (((hbq.out.setCell (p := ⟨w.heap.size + 1, x, none⟩) (by show w.heap.size ≤ w.heap.size + 1; omega) _).alloc (by simp; omega) _).alloc (by simp; omega) _) hg5 (by simp; omega) (fun q hq => by have := (hown.out.lt q hq).1; omega))
                    have hset : ∀ o, (⟨w.heap.size + 1, x, none⟩ : Addr) ≠ ⟨wr.heap.size, o, none⟩ := fun o e => hsz (congrArg Addr.block e).symm
                    have hd0 : Hid (w5.cell? ⟨wr.heap.size, 0, none⟩ = some (.int .i64 (v : Int))) := Lib.hid (hg5.cell (cell_on (cell_on ((World.cell?_setCell_other _ _ _ _ (hset 0)).trans d0) _) _) (fun e => hqn e.symm))
                    have hd1 : Hid (w5.cell? ⟨wr.heap.size, 1, none⟩ = some (.string (bytK p))) := Lib.hid (hg5.cell (cell_on (cell_on ((World.cell?_setCell_other _ _ _ _ (hset 1)).trans d1) _) _) (fun e => hqn e.symm))
                    have hw5 : wr.heap.size < w5.heap.size := by have := hg5.size; simp at this; omega
                    have hq5 : Hid (q5.ownBlock ≠ some wr.heap.size) := Lib.hid (fun e => by
                      rcases hor5 _ e with h1 | ⟨h1, _⟩
                      · exact hqn h1
                      · simp at h1; omega)
                    clear hg5 hor5 hown5 hown ecs hset hcv hMm
                    go_wp2
                    go_roundw
                    case rel => exact ⟨1 + 1, Q' ++ [(x, p ++ [1])], R'.set x true, by go_num, by omega, hT2.out, hMf.out, hbf.out, hd0.out, hd1.out, hw5, hq5.out, by rw [List.length_append]; omega⟩
                    case measure => simp [intOf]
              · clear m0 m1 m2 m3
                cases hk : stK ps v 2 with
                | none =>
                  obtain ⟨m, hmn⟩ := mvR_none hst.out hv30 (by omega) hk
                  have hcl := Lib.hid (fun W (hb : Below wq.heap.size wq W) => (mv11_2 ps v W hv30 hmn))
                  have hT2 := Lib.hid (hT'.skip (fun m hm => by rw [hk] at hm; cases hm))
                  clear hmn hk
                  replace hmov := Lib.hid hmov
                  go_wp2_with fail
                  refine (hcl.out _ (below_a1 _ _)).mono ?_
                  rintro e w1 ⟨rfl, rfl⟩
                  go_wp2
                  go_roundw
                  case rel => exact ⟨2 + 1, Q', R', by go_num, by omega, hT2.out, hM'.below (below_a1 _ _), hbq.out.alloc (by omega) _, cell_on d0 _, cell_on d1 _, by simp; omega, hqn, hQl⟩
                  case measure => simp [intOf]
                | some x =>
                  have hcl := Lib.hid (fun W (hb : Below wq.heap.size wq W) => (mv11_2 ps v W hv30 (mvR_some hst.out hv30 (by omega) hk)))
                  obtain ⟨hx1, hx30⟩ := stK_some hk
                  replace hx1 := Lib.hid hx1
                  have hx0 : (0 : Int) ≤ (x : Int) := Int.natCast_nonneg _
                  have hx31 : (x : Int) < 31 := by omega
                  have hxl : x < R'.length := by rw [hRl.out]; omega
                  have hrx := hM'.reach x R'[x] (by simp [hxl])
                  have hfx := hM'.rfz x
                  have hbits : Hid (R'[x]? = some R'[x]) := Lib.hid (by simp [hxl])
                  cases hbx : R'[x] with
                  | true =>
                    rw [hbx] at hrx hbits
                    have hT2 := Lib.hid (hT'.skip (fun m hm => by rw [hk] at hm; cases hm; exact hbits.out))
                    clear hbx hk
                    replace hmov := Lib.hid hmov
                    go_wp2_with fail
                    refine (hcl.out _ (below_a1 _ _)).mono ?_
                    rintro e w1 ⟨rfl, rfl⟩
                    go_wp2
                    go_roundw
                    case rel => exact ⟨2 + 1, Q', R', by go_num, by omega, hT2.out, hM'.below (below_a1 _ _), hbq.out.alloc (by omega) _, cell_on d0 _, cell_on d1 _, by simp; omega, hqn, hQl⟩
                    case measure => simp [intOf]
                  | false =>
                    rw [hbx] at hrx hbits
                    have hT2 := Lib.hid (hT'.hit (by omega) hk hbits.out)
                    have hMm := Lib.hid (hM'.mark hxl)
                    clear hbx hk
                    replace hmov := Lib.hid hmov
                    have hcv := fun (W : World) => run_convert_int_string (P := Try.prog) W 21 9 .i32 62 (by kernel_rfl) Try.underlying9
                    rw [show Utf8.encode 62 = (⟨#[mvB 2]⟩ : ByteArray) from by decide] at hcv
                    go_wp2_with fail
                    refine (hcl.out _ (below_a1 _ _)).mono ?_
                    rintro e w1 ⟨rfl, rfl⟩
                    have hsz : wr.heap.size ≠ w.heap.size + 1 := by omega
                    have hown : Hid (Mid (((wq.setCell ⟨w.heap.size + 1, x, none⟩ (.bool true)).alloc (.cells #[.int .i32 62, .func (.func 37) #[] #[]] 70)).alloc (.cells #[.int .i64 (x : Int), .string (bytK p ++ ⟨#[mvB 2]⟩)] 66)) (w.heap.size + 2) 2 u6 Q'.length (Q'.flatMap arrC)) := Lib.hid ((hMm.out.below (below_a1 _ _)).below (below_a1 _ _)).queue
                    have hfit : Q'.length ≤ 31 := by have := hT'.fnd.few; simp only [List.length_append, List.length_cons] at this; omega
                    go_wp2_with (at_builtin; refine wpList_append_mid _ rfl (.tmp 57) (.tmp 66) 67 rfl (w.heap.size + 2) 66 i0 _ 2 24 Try.underlying67 hi hz0 hz1 hz2 rfl (by decide) u6 Q'.length (Q'.flatMap arrC) rfl hown.out ⟨wq.heap.size + 1, 0, none⟩ 1 [.int .i64 (x : Int), .string (bytK p ++ ⟨#[mvB 2]⟩)] rfl rfl (newsA2 _ (by simp)) (oneA2 _ _) (by unfold maxLen; omega) (by omega) (by simp; omega) (fun q5 w5 hown5 hg5 hor5 => ?_))
                    have ecs : (Q' ++ [(x, p ++ [2])]).flatMap arrC = Q'.flatMap arrC ++ [.int .i64 (x : Int), .string (bytK p ++ ⟨#[mvB 2]⟩)] := by rw [List.flatMap_append, bytK_snoc]; simp [arrC]
                    have hMf : Hid (PlanM w.heap.size s t q5 (Q' ++ [(x, p ++ [2])]) (R'.set x true) w5) := Lib.hid (((hMm.out.below (below_a1 _ _)).below (below_a1 _ _)).queue' hg5 (by rw [ecs, List.length_append]; exact hown5))
                    have hbf : Hid (Below w.heap.size w w5) := Lib.hid (Below.grown (((hbq.out.setCell (p := ⟨w.heap.size + 1, x, none⟩) (by show w.heap.size ≤ w.heap.size + 1; omega) _).alloc (by simp; omega) _).alloc (by simp; omega) _) hg5 (by simp; omega) (fun q hq => by have := (hown.out.lt q hq).1; omega))
                    have hset : ∀ o, (⟨w.heap.size + 1, x, none⟩ : Addr) ≠ ⟨wr.heap.size, o, none⟩ := fun o e => hsz (congrArg Addr.block e).symm
                    have hd0 : Hid (w5.cell? ⟨wr.heap.size, 0, none⟩ = some (.int .i64 (v : Int))) := Lib.hid (hg5.cell (cell_on (cell_on ((World.cell?_setCell_other _ _ _ _ (hset 0)).trans d0) _) _) (fun e => hqn e.symm))
                    have hd1 : Hid (w5.cell? ⟨wr.heap.size, 1, none⟩ = some (.string (bytK p))) := Lib.hid (hg5.cell (cell_on (cell_on ((World.cell?_setCell_other _ _ _ _ (hset 1)).trans d1) _) _) (fun e => hqn e.symm))
                    have hw5 : wr.heap.size < w5.heap.size := by have := hg5.size; simp at this; omega
                    have hq5 : Hid (q5.ownBlock ≠ some wr.heap.size) := Lib.hid (fun e => by
                      rcases hor5 _ e with h1 | ⟨h1, _⟩
                      · exact hqn h1
                      · simp at h1; omega)
                    clear hg5 hor5 hown5 hown ecs hset hcv hMm
                    go_wp2
                    go_roundw
                    case rel => exact ⟨2 + 1, Q' ++ [(x, p ++ [2])], R'.set x true, by go_num, by omega, hT2.out, hMf.out, hbf.out, hd0.out, hd1.out, hw5, hq5.out, by rw [List.length_append]; omega⟩
                    case measure => simp [intOf]
            · obtain rfl : j = 3 := by omega
              have hB2 := Lib.hid hT'.fin
              have hmes2 := Lib.hid (mes_eq hB2.out.fnd hM')
              go_wp2
              go_roundw
              case rel => exact ⟨D ++ [(v, p)], Q', R', hB2.out, hM', hbq.out, hD2.out⟩
              case measure =>
                obtain ⟨h1, h1'⟩ := hmes0.out
                obtain ⟨h2, h2'⟩ := hmes2.out
                have e0 : ([] : List Arr).length = 0 := rfl
                rw [List.length_cons] at h1 h1'
                rw [List.length_append, List.length_singleton] at h2 h2'
                omega
        · have hc2 : ¬ (1 = cap) := fun e => hc1 e.symm
          rw [if_neg hc1] at hM2
          go_wp2
          go_loopw [6, 36] (fun q i wq => ∃ (j : Nat) (Q' : List Arr) (R' : List Bool), i = .int .i64 (j : Int) ∧ j ≤ 3 ∧ Bft ps s D v p j Q' R' ∧ PlanM w.heap.size s t q Q' R' wq ∧ Below w.heap.size w wq ∧ wq.cell? ⟨wr.heap.size, 0, none⟩ = some (.int .i64 (v : Int)) ∧ wq.cell? ⟨wr.heap.size, 1, none⟩ = some (.string (bytK p)) ∧ wr.heap.size < wq.heap.size ∧ q.ownBlock ≠ some wr.heap.size ∧ Q.length ≤ Q'.length) (fun _ i _ => 3 - (intOf i).toNat)
          case atStart =>
            refine ⟨0, Q, R, rfl, by omega, hT, hM2.below (below_a1 _ _), hb1.out.alloc (by omega) _, cell_new rfl rfl, cell_new rfl rfl, by simp, ?_, Nat.le_refl _⟩
            intro e
            have e2 : gq = wr.heap.size := by cases e; rfl
            omega
          case round =>
            rename World => wq
            obtain ⟨j, Q', R', rfl, hj3, hT', hM', hbq, d0, d1, dlt, hqn, hQl⟩ := hrel
            have hNq1 := hM'.rlt
            have hNq0 : w.heap.size < wq.heap.size := by omega
            have hmov := hM.below (hbq.mono (Nat.le_refl _))
            replace hbq := Lib.hid hbq
            by_cases hj : j < 3
            · have m0 := hmov.c0
              have m1 := hmov.c1
              have m2 := hmov.c2
              have m3 := hmov.c3
              have m4 := hmov.c4
              have m5 := hmov.c5
              have hgq' : g < wq.heap.size := World.block_lt_of_cell? _ _ m0
              have hRl := hT'.fnd.len
              replace hRl := Lib.hid hRl
              rcases (show j = 0 ∨ j = 1 ∨ j = 2 by omega) with rfl | rfl | rfl
              · clear m2 m3 m4 m5
                cases hk : stK ps v 0 with
                | none =>
                  obtain ⟨m, hmn⟩ := mvR_none hst.out hv30 (by omega) hk
                  have hcl := Lib.hid (fun W (hb : Below wq.heap.size wq W) => (mv11_0 g B A n c ps v W (hmov.below hb) hst.out hv30 hmn))
                  have hT2 := Lib.hid (hT'.skip (fun m hm => by rw [hk] at hm; cases hm))
                  clear hmn hk
                  replace hmov := Lib.hid hmov
                  go_wp2_with fail
                  refine (hcl.out _ (below_a1 _ _)).mono ?_
                  rintro e w1 ⟨rfl, rfl⟩
                  go_wp2
                  go_roundw
                  case rel => exact ⟨0 + 1, Q', R', by go_num, by omega, hT2.out, hM'.below (below_a1 _ _), hbq.out.alloc (by omega) _, cell_on d0 _, cell_on d1 _, by simp; omega, hqn, hQl⟩
                  case measure => simp [intOf]
                | some x =>
                  have hcl := Lib.hid (fun W (hb : Below wq.heap.size wq W) => (mv11_0 g B A n c ps v W (hmov.below hb) hst.out hv30 (mvR_some hst.out hv30 (by omega) hk)))
                  obtain ⟨hx1, hx30⟩ := stK_some hk
                  replace hx1 := Lib.hid hx1
                  have hx0 : (0 : Int) ≤ (x : Int) := Int.natCast_nonneg _
                  have hx31 : (x : Int) < 31 := by omega
                  have hxl : x < R'.length := by rw [hRl.out]; omega
                  have hrx := hM'.reach x R'[x] (by simp [hxl])
                  have hfx := hM'.rfz x
                  have hbits : Hid (R'[x]? = some R'[x]) := Lib.hid (by simp [hxl])
                  cases hbx : R'[x] with
                  | true =>
                    rw [hbx] at hrx hbits
                    have hT2 := Lib.hid (hT'.skip (fun m hm => by rw [hk] at hm; cases hm; exact hbits.out))
                    clear hbx hk
                    replace hmov := Lib.hid hmov
                    go_wp2_with fail
                    refine (hcl.out _ (below_a1 _ _)).mono ?_
                    rintro e w1 ⟨rfl, rfl⟩
                    go_wp2
                    go_roundw
                    case rel => exact ⟨0 + 1, Q', R', by go_num, by omega, hT2.out, hM'.below (below_a1 _ _), hbq.out.alloc (by omega) _, cell_on d0 _, cell_on d1 _, by simp; omega, hqn, hQl⟩
                    case measure => simp [intOf]
                  | false =>
                    rw [hbx] at hrx hbits
                    have hT2 := Lib.hid (hT'.hit (by omega) hk hbits.out)
                    have hMm := Lib.hid (hM'.mark hxl)
                    clear hbx hk
                    replace hmov := Lib.hid hmov
                    have hcv := fun (W : World) => run_convert_int_string (P := Try.prog) W 21 9 .i32 35 (by kernel_rfl) Try.underlying9
                    rw [show Utf8.encode 35 = (⟨#[mvB 0]⟩ : ByteArray) from by decide] at hcv
                    go_wp2_with fail
                    refine (hcl.out _ (below_a1 _ _)).mono ?_
                    rintro e w1 ⟨rfl, rfl⟩
                    have hsz : wr.heap.size ≠ w.heap.size + 1 := by omega
                    have hown : Hid (Mid (((wq.setCell ⟨w.heap.size + 1, x, none⟩ (.bool true)).alloc (.cells #[.int .i32 35, .func (.func 34) #[] #[.pointer (some ⟨B, 0, none⟩)]] 70)).alloc (.cells #[.int .i64 (x : Int), .string (bytK p ++ ⟨#[mvB 0]⟩)] 66)) (w.heap.size + 2) 2 u6 Q'.length (Q'.flatMap arrC)) := Lib.hid ((hMm.out.below (below_a1 _ _)).below (below_a1 _ _)).queue
                    have hfit : Q'.length ≤ 31 := by have := hT'.fnd.few; simp only [List.length_append, List.length_cons] at this; omega
                    go_wp2_with (at_builtin; refine wpList_append_mid _ rfl (.tmp 57) (.tmp 66) 67 rfl (w.heap.size + 2) 66 i0 _ 2 24 Try.underlying67 hi hz0 hz1 hz2 rfl (by decide) u6 Q'.length (Q'.flatMap arrC) rfl hown.out ⟨wq.heap.size + 1, 0, none⟩ 1 [.int .i64 (x : Int), .string (bytK p ++ ⟨#[mvB 0]⟩)] rfl rfl (newsA2 _ (by simp)) (oneA2 _ _) (by unfold maxLen; omega) (by omega) (by simp; omega) (fun q5 w5 hown5 hg5 hor5 => ?_))
                    have ecs : (Q' ++ [(x, p ++ [0])]).flatMap arrC = Q'.flatMap arrC ++ [.int .i64 (x : Int), .string (bytK p ++ ⟨#[mvB 0]⟩)] := by rw [List.flatMap_append, bytK_snoc]; simp [arrC]
                    have hMf : Hid (PlanM w.heap.size s t q5 (Q' ++ [(x, p ++ [0])]) (R'.set x true) w5) := Lib.hid (((hMm.out.below (below_a1 _ _)).below (below_a1 _ _)).queue' hg5 (by rw [ecs, List.length_append]; exact hown5))
                    have hbf : Hid (Below w.heap.size w w5) := Lib.hid (Below.grown (((hbq.out.setCell (p := ⟨w.heap.size + 1, x, none⟩) (by show w.heap.size ≤ w.heap.size + 1; omega) _).alloc (by simp; omega) _).alloc (by simp; omega) _) hg5 (by simp; omega) (fun q hq => by have := (hown.out.lt q hq).1; omega))
                    have hset : ∀ o, (⟨w.heap.size + 1, x, none⟩ : Addr) ≠ ⟨wr.heap.size, o, none⟩ := fun o e => hsz (congrArg Addr.block e).symm
                    have hd0 : Hid (w5.cell? ⟨wr.heap.size, 0, none⟩ = some (.int .i64 (v : Int))) := Lib.hid (hg5.cell (cell_on (cell_on ((World.cell?_setCell_other _ _ _ _ (hset 0)).trans d0) _) _) (fun e => hqn e.symm))
                    have hd1 : Hid (w5.cell? ⟨wr.heap.size, 1, none⟩ = some (.string (bytK p))) := Lib.hid (hg5.cell (cell_on (cell_on ((World.cell?_setCell_other _ _ _ _ (hset 1)).trans d1) _) _) (fun e => hqn e.symm))
                    have hw5 : wr.heap.size < w5.heap.size := by have := hg5.size; simp at this; omega
                    have hq5 : Hid (q5.ownBlock ≠ some wr.heap.size) := Lib.hid (fun e => by
                      rcases hor5 _ e with h1 | ⟨h1, _⟩
                      · exact hqn h1
                      · simp at h1; omega)
                    clear hg5 hor5 hown5 hown ecs hset hcv hMm
                    go_wp2
                    go_roundw
                    case rel => exact ⟨0 + 1, Q' ++ [(x, p ++ [0])], R'.set x true, by go_num, by omega, hT2.out, hMf.out, hbf.out, hd0.out, hd1.out, hw5, hq5.out, by rw [List.length_append]; omega⟩
                    case measure => simp [intOf]
              · clear m0 m1 m4 m5
                cases hk : stK ps v 1 with
                | none =>
                  obtain ⟨m, hmn⟩ := mvR_none hst.out hv30 (by omega) hk
                  have hcl := Lib.hid (fun W (hb : Below wq.heap.size wq W) => (mv11_1 ps v W hv30 hmn))
                  have hT2 := Lib.hid (hT'.skip (fun m hm => by rw [hk] at hm; cases hm))
                  clear hmn hk
                  replace hmov := Lib.hid hmov
                  go_wp2_with fail
                  refine (hcl.out _ (below_a1 _ _)).mono ?_
                  rintro e w1 ⟨rfl, rfl⟩
                  go_wp2
                  go_roundw
                  case rel => exact ⟨1 + 1, Q', R', by go_num, by omega, hT2.out, hM'.below (below_a1 _ _), hbq.out.alloc (by omega) _, cell_on d0 _, cell_on d1 _, by simp; omega, hqn, hQl⟩
                  case measure => simp [intOf]
                | some x =>
                  have hcl := Lib.hid (fun W (hb : Below wq.heap.size wq W) => (mv11_1 ps v W hv30 (mvR_some hst.out hv30 (by omega) hk)))
                  obtain ⟨hx1, hx30⟩ := stK_some hk
                  replace hx1 := Lib.hid hx1
                  have hx0 : (0 : Int) ≤ (x : Int) := Int.natCast_nonneg _
                  have hx31 : (x : Int) < 31 := by omega
                  have hxl : x < R'.length := by rw [hRl.out]; omega
                  have hrx := hM'.reach x R'[x] (by simp [hxl])
                  have hfx := hM'.rfz x
                  have hbits : Hid (R'[x]? = some R'[x]) := Lib.hid (by simp [hxl])
                  cases hbx : R'[x] with
                  | true =>
                    rw [hbx] at hrx hbits
                    have hT2 := Lib.hid (hT'.skip (fun m hm => by rw [hk] at hm; cases hm; exact hbits.out))
                    clear hbx hk
                    replace hmov := Lib.hid hmov
                    go_wp2_with fail
                    refine (hcl.out _ (below_a1 _ _)).mono ?_
                    rintro e w1 ⟨rfl, rfl⟩
                    go_wp2
                    go_roundw
                    case rel => exact ⟨1 + 1, Q', R', by go_num, by omega, hT2.out, hM'.below (below_a1 _ _), hbq.out.alloc (by omega) _, cell_on d0 _, cell_on d1 _, by simp; omega, hqn, hQl⟩
                    case measure => simp [intOf]
                  | false =>
                    rw [hbx] at hrx hbits
                    have hT2 := Lib.hid (hT'.hit (by omega) hk hbits.out)
                    have hMm := Lib.hid (hM'.mark hxl)
                    clear hbx hk
                    replace hmov := Lib.hid hmov
                    have hcv := fun (W : World) => run_convert_int_string (P := Try.prog) W 21 9 .i32 60 (by kernel_rfl) Try.underlying9
                    rw [show Utf8.encode 60 = (⟨#[mvB 1]⟩ : ByteArray) from by decide] at hcv
                    go_wp2_with fail
                    refine (hcl.out _ (below_a1 _ _)).mono ?_
                    rintro e w1 ⟨rfl, rfl⟩
                    have hsz : wr.heap.size ≠ w.heap.size + 1 := by omega
                    have hown : Hid (Mid (((wq.setCell ⟨w.heap.size + 1, x, none⟩ (.bool true)).alloc (.cells #[.int .i32 60, .func (.func 36) #[] #[]] 70)).alloc (.cells #[.int .i64 (x : Int), .string (bytK p ++ ⟨#[mvB 1]⟩)] 66)) (w.heap.size + 2) 2 u6 Q'.length (Q'.flatMap arrC)) := Lib.hid ((hMm.out.below (below_a1 _ _)).below (below_a1 _ _)).queue
                    have hfit : Q'.length ≤ 31 := by have := hT'.fnd.few; simp only [List.length_append, List.length_cons] at this; omega
                    go_wp2_with (at_builtin; refine wpList_append_mid _ rfl (.tmp 57) (.tmp 66) 67 rfl (w.heap.size + 2) 66 i0 _ 2 24 Try.underlying67 hi hz0 hz1 hz2 rfl (by decide) u6 Q'.length (Q'.flatMap arrC) rfl hown.out ⟨wq.heap.size + 1, 0, none⟩ 1 [.int .i64 (x : Int), .string (bytK p ++ ⟨#[mvB 1]⟩)] rfl rfl (newsA2 _ (by simp)) (oneA2 _ _) (by unfold maxLen; omega) (by omega) (by simp; omega) (fun q5 w5 hown5 hg5 hor5 => ?_))
                    have ecs : (Q' ++ [(x, p ++ [1])]).flatMap arrC = Q'.flatMap arrC ++ [.int .i64 (x : Int), .string (bytK p ++ ⟨#[mvB 1]⟩)] := by rw [List.flatMap_append, bytK_snoc]; simp [arrC]
                    have hMf : Hid (PlanM w.heap.size s t q5 (Q' ++ [(x, p ++ [1])]) (R'.set x true) w5) := Lib.hid (((hMm.out.below (below_a1 _ _)).below (below_a1 _ _)).queue' hg5 (by rw [ecs, List.length_append]; exact hown5))
                    have hbf : Hid (Below w.heap.size w w5) := Lib.hid (Below.grown (((hbq.out.setCell (p := ⟨w.heap.size + 1, x, none⟩) (by show w.heap.size ≤ w.heap.size + 1; omega) _).alloc (by simp; omega) _).alloc (by simp; omega) _) hg5 (by simp; omega) (fun q hq => by have := (hown.out.lt q hq).1; omega))
                    have hset : ∀ o, (⟨w.heap.size + 1, x, none⟩ : Addr) ≠ ⟨wr.heap.size, o, none⟩ := fun o e => hsz (congrArg Addr.block e).symm
                    have hd0 : Hid (w5.cell? ⟨wr.heap.size, 0, none⟩ = some (.int .i64 (v : Int))) := Lib.hid (hg5.cell (cell_on (cell_on ((World.cell?_setCell_other _ _ _ _ (hset 0)).trans d0) _) _) (fun e => hqn e.symm))
                    have hd1 : Hid (w5.cell? ⟨wr.heap.size, 1, none⟩ = some (.string (bytK p))) := Lib.hid (hg5.cell (cell_on (cell_on ((World.cell?_setCell_other _ _ _ _ (hset 1)).trans d1) _) _) (fun e => hqn e.symm))
                    have hw5 : wr.heap.size < w5.heap.size := by have := hg5.size; simp at this; omega
                    have hq5 : Hid (q5.ownBlock ≠ some wr.heap.size) := Lib.hid (fun e => by
                      rcases hor5 _ e with h1 | ⟨h1, _⟩
                      · exact hqn h1
                      · simp at h1; omega)
                    clear hg5 hor5 hown5 hown ecs hset hcv hMm
                    go_wp2
                    go_roundw
                    case rel => exact ⟨1 + 1, Q' ++ [(x, p ++ [1])], R'.set x true, by go_num, by omega, hT2.out, hMf.out, hbf.out, hd0.out, hd1.out, hw5, hq5.out, by rw [List.length_append]; omega⟩
                    case measure => simp [intOf]
              · clear m0 m1 m2 m3
                cases hk : stK ps v 2 with
                | none =>
                  obtain ⟨m, hmn⟩ := mvR_none hst.out hv30 (by omega) hk
                  have hcl := Lib.hid (fun W (hb : Below wq.heap.size wq W) => (mv11_2 ps v W hv30 hmn))
                  have hT2 := Lib.hid (hT'.skip (fun m hm => by rw [hk] at hm; cases hm))
                  clear hmn hk
                  replace hmov := Lib.hid hmov
                  go_wp2_with fail
                  refine (hcl.out _ (below_a1 _ _)).mono ?_
                  rintro e w1 ⟨rfl, rfl⟩
                  go_wp2
                  go_roundw
                  case rel => exact ⟨2 + 1, Q', R', by go_num, by omega, hT2.out, hM'.below (below_a1 _ _), hbq.out.alloc (by omega) _, cell_on d0 _, cell_on d1 _, by simp; omega, hqn, hQl⟩
                  case measure => simp [intOf]
                | some x =>
                  have hcl := Lib.hid (fun W (hb : Below wq.heap.size wq W) => (mv11_2 ps v W hv30 (mvR_some hst.out hv30 (by omega) hk)))
                  obtain ⟨hx1, hx30⟩ := stK_some hk
                  replace hx1 := Lib.hid hx1
                  have hx0 : (0 : Int) ≤ (x : Int) := Int.natCast_nonneg _
                  have hx31 : (x : Int) < 31 := by omega
                  have hxl : x < R'.length := by rw [hRl.out]; omega
                  have hrx := hM'.reach x R'[x] (by simp [hxl])
                  have hfx := hM'.rfz x
                  have hbits : Hid (R'[x]? = some R'[x]) := Lib.hid (by simp [hxl])
                  cases hbx : R'[x] with
                  | true =>
                    rw [hbx] at hrx hbits
                    have hT2 := Lib.hid (hT'.skip (fun m hm => by rw [hk] at hm; cases hm; exact hbits.out))
                    clear hbx hk
                    replace hmov := Lib.hid hmov
                    go_wp2_with fail
                    refine (hcl.out _ (below_a1 _ _)).mono ?_
                    rintro e w1 ⟨rfl, rfl⟩
                    go_wp2
                    go_roundw
                    case rel => exact ⟨2 + 1, Q', R', by go_num, by omega, hT2.out, hM'.below (below_a1 _ _), hbq.out.alloc (by omega) _, cell_on d0 _, cell_on d1 _, by simp; omega, hqn, hQl⟩
                    case measure => simp [intOf]
                  | false =>
                    rw [hbx] at hrx hbits
                    have hT2 := Lib.hid (hT'.hit (by omega) hk hbits.out)
                    have hMm := Lib.hid (hM'.mark hxl)
                    clear hbx hk
                    replace hmov := Lib.hid hmov
                    have hcv := fun (W : World) => run_convert_int_string (P := Try.prog) W 21 9 .i32 62 (by kernel_rfl) Try.underlying9
                    rw [show Utf8.encode 62 = (⟨#[mvB 2]⟩ : ByteArray) from by decide] at hcv
                    go_wp2_with fail
                    refine (hcl.out _ (below_a1 _ _)).mono ?_
                    rintro e w1 ⟨rfl, rfl⟩
                    have hsz : wr.heap.size ≠ w.heap.size + 1 := by omega
                    have hown : Hid (Mid (((wq.setCell ⟨w.heap.size + 1, x, none⟩ (.bool true)).alloc (.cells #[.int .i32 62, .func (.func 37) #[] #[]] 70)).alloc (.cells #[.int .i64 (x : Int), .string (bytK p ++ ⟨#[mvB 2]⟩)] 66)) (w.heap.size + 2) 2 u6 Q'.length (Q'.flatMap arrC)) := Lib.hid ((hMm.out.below (below_a1 _ _)).below (below_a1 _ _)).queue
                    have hfit : Q'.length ≤ 31 := by have := hT'.fnd.few; simp only [List.length_append, List.length_cons] at this; omega
                    go_wp2_with (at_builtin; refine wpList_append_mid _ rfl (.tmp 57) (.tmp 66) 67 rfl (w.heap.size + 2) 66 i0 _ 2 24 Try.underlying67 hi hz0 hz1 hz2 rfl (by decide) u6 Q'.length (Q'.flatMap arrC) rfl hown.out ⟨wq.heap.size + 1, 0, none⟩ 1 [.int .i64 (x : Int), .string (bytK p ++ ⟨#[mvB 2]⟩)] rfl rfl (newsA2 _ (by simp)) (oneA2 _ _) (by unfold maxLen; omega) (by omega) (by simp; omega) (fun q5 w5 hown5 hg5 hor5 => ?_))
                    have ecs : (Q' ++ [(x, p ++ [2])]).flatMap arrC = Q'.flatMap arrC ++ [.int .i64 (x : Int), .string (bytK p ++ ⟨#[mvB 2]⟩)] := by rw [List.flatMap_append, bytK_snoc]; simp [arrC]
                    have hMf : Hid (PlanM w.heap.size s t q5 (Q' ++ [(x, p ++ [2])]) (R'.set x true) w5) := Lib.hid (((hMm.out.below (below_a1 _ _)).below (below_a1 _ _)).queue' hg5 (by rw [ecs, List.length_append]; exact hown5))
                    have hbf : Hid (Below w.heap.size w w5) := Lib.hid (Below.grown (((hbq.out.setCell (p := ⟨w.heap.size + 1, x, none⟩) (by show w.heap.size ≤ w.heap.size + 1; omega) _).alloc (by simp; omega) _).alloc (by simp; omega) _) hg5 (by simp; omega) (fun q hq => by have := (hown.out.lt q hq).1; omega))
                    have hset : ∀ o, (⟨w.heap.size + 1, x, none⟩ : Addr) ≠ ⟨wr.heap.size, o, none⟩ := fun o e => hsz (congrArg Addr.block e).symm
                    have hd0 : Hid (w5.cell? ⟨wr.heap.size, 0, none⟩ = some (.int .i64 (v : Int))) := Lib.hid (hg5.cell (cell_on (cell_on ((World.cell?_setCell_other _ _ _ _ (hset 0)).trans d0) _) _) (fun e => hqn e.symm))
                    have hd1 : Hid (w5.cell? ⟨wr.heap.size, 1, none⟩ = some (.string (bytK p))) := Lib.hid (hg5.cell (cell_on (cell_on ((World.cell?_setCell_other _ _ _ _ (hset 1)).trans d1) _) _) (fun e => hqn e.symm))
                    have hw5 : wr.heap.size < w5.heap.size := by have := hg5.size; simp at this; omega
                    have hq5 : Hid (q5.ownBlock ≠ some wr.heap.size) := Lib.hid (fun e => by
                      rcases hor5 _ e with h1 | ⟨h1, _⟩
                      · exact hqn h1
                      · simp at h1; omega)
                    clear hg5 hor5 hown5 hown ecs hset hcv hMm
                    go_wp2
                    go_roundw
                    case rel => exact ⟨2 + 1, Q' ++ [(x, p ++ [2])], R'.set x true, by go_num, by omega, hT2.out, hMf.out, hbf.out, hd0.out, hd1.out, hw5, hq5.out, by rw [List.length_append]; omega⟩
                    case measure => simp [intOf]
            · obtain rfl : j = 3 := by omega
              have hB2 := Lib.hid hT'.fin
              have hmes2 := Lib.hid (mes_eq hB2.out.fnd hM')
              go_wp2
              go_roundw
              case rel => exact ⟨D ++ [(v, p)], Q', R', hB2.out, hM', hbq.out, hD2.out⟩
              case measure =>
                obtain ⟨h1, h1'⟩ := hmes0.out
                obtain ⟨h2, h2'⟩ := hmes2.out
                have e0 : ([] : List Arr).length = 0 := rfl
                rw [List.length_cons] at h1 h1'
                rw [List.length_append, List.length_singleton] at h2 h2'
                omega
end Go.Proofs.Ytijelimpkcnbjaa
