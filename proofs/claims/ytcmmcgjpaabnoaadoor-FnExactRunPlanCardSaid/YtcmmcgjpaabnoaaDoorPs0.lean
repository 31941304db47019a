/- Plans as the program reads them. -/
import Derived.Test.YtcmmcgjpaabnoaaDoorTm6
import Derived.Laws.RangeAny
import Derived.Lib.OthersKept
namespace Go.Proofs.YtcmmcgjpaabnoaaDoor
open Go.RowKit Go.ChangeShapes Go.WideShapes Go.Deep
set_option linter.unusedVariables false
set_option linter.unusedSimpArgs false

theorem own_iterAt11 {w : World} {B e size n : Nat} {v : Value} {xs : List Value} {k : Nat} {s : ByteArray} {pos : Nat} (h : w.ownsRow B e size v n xs) (hk : w.heap[k]? = some (.stringIter s pos)) (pos' : Nat) : (w.iterAt k s pos').ownsRow B e size v n xs := by
  refine ⟨h.1, ?_⟩
  rcases h.2 with h0 | ⟨g, cap, cur, hv, hb, hg, rest⟩
  · exact .inl h0
  · refine .inr ⟨g, cap, cur, hv, hb, ?_, rest⟩
    rw [Lib.iterAt_other _ _ _ _ _ (fun e => by subst e; rw [hk] at hg; cases hg)]
    exact hg
theorem own_ne_iter11 {w : World} {B e size n : Nat} {v : Value} {xs : List Value} {k : Nat} {s : ByteArray} {pos : Nat} (h : w.ownsRow B e size v n xs) (hk : w.heap[k]? = some (.stringIter s pos)) : some k ≠ v.ownBlock := by
  rcases h.2 with ⟨rfl, _⟩ | ⟨g, cap, cur, rfl, hb, hg, rest⟩
  · simp [Value.ownBlock]
  · intro e
    simp only [Value.ownBlock, Option.some.injEq] at e
    subst e
    rw [hk] at hg
    cases hg
abbrev Stp := UInt8 × Bool
def stpC (x : Stp) : List Value := [.int .i32 (x.1.toNat : Int), .bool x.2]
theorem one11s (a : Int) (b : Bool) : ∀ u ∈ [Value.int .i32 a, Value.bool b], u.oneCell' = true := by
  intro u hu
  simp only [List.mem_cons, List.not_mem_nil, or_false] at hu
  rcases hu with rfl | rfl <;> rfl
theorem news11 {w : World} {v1 v2 : Value} {B : Nat} (T : TypeId) (hB : B = w.heap.size) : ∀ j u, [v1, v2][j]? = some u → (w.alloc (.cells #[v1, v2] T)).cell? ((⟨B, 0, none⟩ : Addr).add j) = some u := by
  intro j u hj
  subst hB
  match j, hj with
  | 0, hj => cases hj; exact cell_new (by simp [Addr.add]) rfl
  | 1, hj => cases hj; exact cell_new (by simp [Addr.add]) rfl
  | j + 2, hj => simp at hj
theorem Tryd.infoStp : (Tryd.prog.info? 41).map (fun i => (i.zero, i.size, i.bytes)) = some (some (.agg #[.int .i32 0, .bool false]), 2, 8) := by kernel_rfl
/-- The steps of a plan; whether a letter must come next. -/
def stF : Bool → List UInt8 → Option (List Stp)
  | m, [] => if m then none else some []
  | m, c :: r => if m then (if letQ c = true then (stF false r).map ((c, true) :: ·) else none) else if c.toNat = 39 then stF true r else if mvQ c = true then (stF false r).map ((c, false) :: ·) else none
theorem st_drop {l : List UInt8} {k : Nat} {c : UInt8} (m : Bool) (h : l[k]? = some c) : stF m (l.drop k) = stF m (c :: l.drop (k + 1)) := by
  obtain ⟨h1, rfl⟩ := List.getElem?_eq_some_iff.1 h
  rw [List.drop_eq_getElem_cons h1]
theorem snocS (L : List Stp) (x : Stp) : (L ++ [x]).flatMap stpC = L.flatMap stpC ++ stpC x := by simp
theorem map_snoc {L : List Stp} {x : Stp} {o : Option (List Stp)} : (o.map (x :: ·)).map (L ++ ·) = o.map (L ++ [x] ++ ·) := by
  cases o <;> simp
theorem bytes_at11 (s : ByteArray) {k : Nat} (h : k < s.size) : s.data.toList[k]? = some (s[k]'h) := by
  rw [List.getElem?_eq_getElem (by simpa using h)]; rfl
theorem size_len11 (s : ByteArray) : s.data.toList.length = s.size := rfl
theorem let_in (c : UInt8) : letQ c = inR (c.toNat : Int) 33 126 := by
  unfold letQ inR
  congr 1
  · exact decide_eq_decide.2 (by omega)
  · exact decide_eq_decide.2 (by omega)
/-- The steps that a plan tells, if it is one. -/
def RpOut (s : ByteArray) (w : World) (e : Ending) (w' : World) : Prop :=
  Below w.heap.size w w' ∧ ((∃ L A c, stF false s.data.toList = some L ∧ L.length ≤ s.size ∧ s.size ≤ 200 ∧ e = .returned (.tuple #[.slice A L.length c, .bool true]) ∧ SRow 2 stpC w' A L.length L) ∨ ((200 < s.size ∨ stF false s.data.toList = none) ∧ ∃ v, e = .returned (.tuple #[v, .bool false])))
set_option maxRecDepth 100000 in
set_option maxHeartbeats 3200000 in
theorem readPlan11 (s : ByteArray) (hs : s.size ≤ 1048576) (w : World) : Calls Tryd.prog 11 #[.string s] w (RpOut s w) := by
  obtain ⟨i0, hi, hz0, hz1, hz2⟩ := info_parts Tryd.infoStp
  by_cases h200 : 200 < s.size
  · have g1 : decide ((200 : Int) < (s.size : Int)) = true := decide_eq_true (by omega)
    have g2 : decide (200 < s.size) = true := decide_eq_true h200
    replace h200 := Lib.hid h200
    go_enter Tryd.func11, Tryd.ntmps11
    go_wp2
    go_ret2
    exact ⟨Below.refl _ _, .inr ⟨.inl h200.out, _, rfl⟩⟩
  have g200 : decide ((200 : Int) < (s.size : Int)) = false := decide_eq_false (by omega)
  have g201 : decide (200 < s.size) = false := decide_eq_false h200
  have hs200 : s.size ≤ 200 := by omega
  replace h200 := Lib.hid h200
  go_enter Tryd.func11, Tryd.ntmps11
  go_wp2
  go_loopw [4, 5] (fun v mv wr => ∃ (pos : Nat) (L : List Stp) (m : Bool), mv = .bool m ∧ L.length ≤ pos ∧ wr.heap[w.heap.size]? = some (.stringIter s pos) ∧ Below w.heap.size w wr ∧ pos ≤ s.size ∧ stF false s.data.toList = (stF m (s.data.toList.drop pos)).map (L ++ ·) ∧ wr.ownsRow (w.heap.size + 1) 41 2 v L.length (L.flatMap stpC)) (fun _ _ wr => s.size - wr.iterPos w.heap.size)
  case atStart => exact ⟨0, [], false, rfl, by simp, World.iter_heap w s 0, (Below.refl _ w).alloc (Nat.le_refl _) _, by omega, by simp, World.ownsRow_nil _ _ _ _⟩
  case round =>
    rename World => wr
    obtain ⟨pos, L, m, rfl, hLp, hit, hbw, hps, he, hrow⟩ := hrel
    replace he := Lib.hid he
    have hsz : w.heap.size < wr.heap.size := (Array.getElem?_eq_some_iff.1 hit).1
    by_cases hp : pos < s.size
    · have hst := Lib.hid (st_drop m (bytes_at11 s hp))
      by_cases hasc : (s[pos]'hp).toNat < 128
      · have hnx : ∀ ty, (Instr.next (.pointer (some ⟨w.heap.size, 0, none⟩)) true ty).run Tryd.prog wr = _ := fun ty => Lib.run_next_ascii_at wr w.heap.size s pos ty hit hp hasc
        have hit2 := Lib.iterAt_heap wr w.heap.size s pos (pos + 1) hit
        have hbw2 := Lib.below_iterAt hbw (k := w.heap.size) (Nat.le_refl _) s (pos + 1)
        have hrow2 := own_iterAt11 hrow hit (pos + 1)
        have hsz2 : w.heap.size < (wr.iterAt w.heap.size s (pos + 1)).heap.size := by rw [Lib.iterAt_size]; exact hsz
        have hip : wr.iterPos w.heap.size = pos := by simp only [World.iterPos, hit]
        have hc255 := (s[pos]'hp).toNat_lt
        have hc0 : (0 : Int) ≤ ((s[pos]'hp).toNat : Int) := Int.natCast_nonneg _
        have hwr1 : IntKind.i64.wrap ((s[pos]'hp).toNat : Int) = ((s[pos]'hp).toNat : Int) := IntWalk.i64_in _ (by omega)
        clear hbw hit hrow
        generalize hwi : wr.iterAt w.heap.size s (pos + 1) = wi at *
        clear hwi
        replace hwr1 := Lib.hid hwr1
        cases m with
        | true =>
          cases hq : letQ (s[pos]'hp) with
          | true =>
            have hnx2 : Hid (stF false s.data.toList = (stF false (s.data.toList.drop (pos + 1))).map (L ++ [((s[pos]'hp), true)] ++ ·)) := Lib.hid (by rw [he.out, hst.out, ← map_snoc]; simp [stF, hq])
            have hcl := Lib.hid (fun W => in8_impl ((let_in (s[pos]'hp)).symm.trans hq) W)
            clear hq
            have hrl := Lib.hid hrow2
            have hne := Lib.hid (own_ne_iter11 hrow2 hit2)
            have hB0 : w.heap.size + 1 ≤ wi.heap.size := by omega
            clear hrow2
            go_wp2_with fail
            refine (hcl.out _).mono ?_
            rintro e w1 ⟨rfl, rfl⟩
            go_wp2_with (at_builtin; refine wpList_append_own _ rfl _ _ 31 rfl (w.heap.size + 1) 41 i0 _ 2 8 Tryd.underlying31 hi hz0 hz1 hz2 rfl (by decide) _ _ _ rfl (hrl.out.alloc _) ⟨wi.heap.size, 0, none⟩ 1 1 [.int .i32 ((s[pos]'hp).toNat : Int), .bool true] rfl rfl (news11 _ rfl) (one11s _ _) (by unfold maxLen; omega) (by omega) (by simp; omega) ?_)
            intro vqq wqq hownqq hgrqq hnilqq
            have hgqq := grown_trans (grown_below (below_a1 wi _) _) hgrqq
            clear hgrqq hnilqq
            have hqq : Hid (wqq.ownsRow (w.heap.size + 1) 41 2 vqq (L ++ [((s[pos]'hp), true)]).length ((L ++ [((s[pos]'hp), true)]).flatMap stpC)) := Lib.hid (by rw [snocS, List.length_append]; exact hownqq)
            clear hownqq
            have hit3 := Lib.hid (show wqq.heap[w.heap.size]? = some (.stringIter s (pos + 1)) from (hgqq.block _ hsz2 hne.out).trans hit2)
            have hb3 := Lib.hid (hbw2.grown hgqq (Nat.le_of_lt hsz2) (fun j hj => by have := owns_ge8 hrl.out hj; omega))
            clear hgqq hrl
            go_wp2
            go_roundw
            case rel => exact ⟨pos + 1, L ++ [((s[pos]'hp), true)], false, rfl, by rw [List.length_append]; simp; omega, hit3.out, hb3.out, by omega, hnx2.out, hqq.out⟩
            case measure => simp only [World.iterPos, hit3.out] at *; omega
          | false =>
            have hbad : Hid (stF false s.data.toList = none) := Lib.hid (by rw [he.out, hst.out]; simp [stF, hq])
            have hcl := Lib.hid (fun W => in8_impl ((let_in (s[pos]'hp)).symm.trans hq) W)
            clear hq hrow2
            go_wp2_with fail
            refine (hcl.out _).mono ?_
            rintro e w1 ⟨rfl, rfl⟩
            go_wp2
            go_ret2
            exact ⟨hbw2, .inr ⟨.inr hbad.out, _, rfl⟩⟩
        | false =>
          by_cases h39 : (s[pos]'hp).toNat = 39
          · have hnx2 : Hid (stF false s.data.toList = (stF true (s.data.toList.drop (pos + 1))).map (L ++ ·)) := Lib.hid (by rw [he.out, hst.out]; simp [stF, h39])
            have g1 : (((s[pos]'hp).toNat : Int) == 39) = true := beq_iff_eq.2 (by omega)
            have g1' : ((s[pos]'hp).toNat == 39) = true := beq_iff_eq.2 h39
            replace h39 := Lib.hid h39
            replace hrow2 := Lib.hid hrow2
            go_wp2
            go_roundw
            case rel => exact ⟨pos + 1, L, true, rfl, by omega, hit2, hbw2, by omega, hnx2.out, hrow2.out⟩
            case measure => simp only [World.iterPos, hit2] at *; omega
          · have g1 : (((s[pos]'hp).toNat : Int) == 39) = false := beq_eq_false_iff_ne.2 (by omega)
            have g1' : ((s[pos]'hp).toNat == 39) = false := beq_eq_false_iff_ne.2 h39
            cases hq : mvQ (s[pos]'hp) with
            | true =>
              have hnx2 : Hid (stF false s.data.toList = (stF false (s.data.toList.drop (pos + 1))).map (L ++ [((s[pos]'hp), false)] ++ ·)) := Lib.hid (by rw [he.out, hst.out, ← map_snoc]; simp [stF, hq, h39])
              replace h39 := Lib.hid h39
              have hcases : (s[pos]'hp).toNat = 35 ∨ (s[pos]'hp).toNat = 60 ∨ (s[pos]'hp).toNat = 62 := by simpa [mvQ] using hq
              clear hq
              rcases hcases with hc | hc | hc
              · have k1 : (((s[pos]'hp).toNat : Int) == 35) = true := beq_iff_eq.2 (by omega)
                have k1' : ((s[pos]'hp).toNat == 35) = true := beq_iff_eq.2 hc
                replace hc := Lib.hid hc
                have hrl := Lib.hid hrow2
                have hne := Lib.hid (own_ne_iter11 hrow2 hit2)
                have hB0 : w.heap.size + 1 ≤ wi.heap.size := by omega
                clear hrow2
                go_wp2_with (at_builtin; refine wpList_append_own _ rfl _ _ 31 rfl (w.heap.size + 1) 41 i0 _ 2 8 Tryd.underlying31 hi hz0 hz1 hz2 rfl (by decide) _ _ _ rfl (hrl.out.alloc _) ⟨wi.heap.size, 0, none⟩ 1 1 [.int .i32 ((s[pos]'hp).toNat : Int), .bool false] rfl rfl (news11 _ rfl) (one11s _ _) (by unfold maxLen; omega) (by omega) (by simp; omega) ?_)
                intro vqq wqq hownqq hgrqq hnilqq
                have hgqq := grown_trans (grown_below (below_a1 wi _) _) hgrqq
                clear hgrqq hnilqq
                have hqq : Hid (wqq.ownsRow (w.heap.size + 1) 41 2 vqq (L ++ [((s[pos]'hp), false)]).length ((L ++ [((s[pos]'hp), false)]).flatMap stpC)) := Lib.hid (by rw [snocS, List.length_append]; exact hownqq)
                clear hownqq
                have hit3 := Lib.hid (show wqq.heap[w.heap.size]? = some (.stringIter s (pos + 1)) from (hgqq.block _ hsz2 hne.out).trans hit2)
                have hb3 := Lib.hid (hbw2.grown hgqq (Nat.le_of_lt hsz2) (fun j hj => by have := owns_ge8 hrl.out hj; omega))
                clear hgqq hrl
                go_wp2
                go_roundw
                case rel => exact ⟨pos + 1, L ++ [((s[pos]'hp), false)], false, rfl, by rw [List.length_append]; simp; omega, hit3.out, hb3.out, by omega, hnx2.out, hqq.out⟩
                case measure => simp only [World.iterPos, hit3.out] at *; omega
              · have k1 : (((s[pos]'hp).toNat : Int) == 35) = false := beq_eq_false_iff_ne.2 (by omega)
                have k1' : ((s[pos]'hp).toNat == 35) = false := beq_eq_false_iff_ne.2 (by omega)
                have k2 : (((s[pos]'hp).toNat : Int) == 60) = true := beq_iff_eq.2 (by omega)
                have k2' : ((s[pos]'hp).toNat == 60) = true := beq_iff_eq.2 hc
                replace hc := Lib.hid hc
                have hrl := Lib.hid hrow2
                have hne := Lib.hid (own_ne_iter11 hrow2 hit2)
                have hB0 : w.heap.size + 1 ≤ wi.heap.size := by omega
                clear hrow2
                go_wp2_with (at_builtin; refine wpList_append_own _ rfl _ _ 31 rfl (w.heap.size + 1) 41 i0 _ 2 8 Tryd.underlying31 hi hz0 hz1 hz2 rfl (by decide) _ _ _ rfl (hrl.out.alloc _) ⟨wi.heap.size, 0, none⟩ 1 1 [.int .i32 ((s[pos]'hp).toNat : Int), .bool false] rfl rfl (news11 _ rfl) (one11s _ _) (by unfold maxLen; omega) (by omega) (by simp; omega) ?_)
                intro vqq wqq hownqq hgrqq hnilqq
                have hgqq := grown_trans (grown_below (below_a1 wi _) _) hgrqq
                clear hgrqq hnilqq
                have hqq : Hid (wqq.ownsRow (w.heap.size + 1) 41 2 vqq (L ++ [((s[pos]'hp), false)]).length ((L ++ [((s[pos]'hp), false)]).flatMap stpC)) := Lib.hid (by rw [snocS, List.length_append]; exact hownqq)
                clear hownqq
                have hit3 := Lib.hid (show wqq.heap[w.heap.size]? = some (.stringIter s (pos + 1)) from (hgqq.block _ hsz2 hne.out).trans hit2)
                have hb3 := Lib.hid (hbw2.grown hgqq (Nat.le_of_lt hsz2) (fun j hj => by have := owns_ge8 hrl.out hj; omega))
                clear hgqq hrl
                go_wp2
                go_roundw
                case rel => exact ⟨pos + 1, L ++ [((s[pos]'hp), false)], false, rfl, by rw [List.length_append]; simp; omega, hit3.out, hb3.out, by omega, hnx2.out, hqq.out⟩
                case measure => simp only [World.iterPos, hit3.out] at *; omega
              · have k1 : (((s[pos]'hp).toNat : Int) == 35) = false := beq_eq_false_iff_ne.2 (by omega)
                have k1' : ((s[pos]'hp).toNat == 35) = false := beq_eq_false_iff_ne.2 (by omega)
                have k2 : (((s[pos]'hp).toNat : Int) == 60) = false := beq_eq_false_iff_ne.2 (by omega)
                have k2' : ((s[pos]'hp).toNat == 60) = false := beq_eq_false_iff_ne.2 (by omega)
                have k3 : (((s[pos]'hp).toNat : Int) == 62) = true := beq_iff_eq.2 (by omega)
                have k3' : ((s[pos]'hp).toNat == 62) = true := beq_iff_eq.2 hc
                replace hc := Lib.hid hc
                have hrl := Lib.hid hrow2
                have hne := Lib.hid (own_ne_iter11 hrow2 hit2)
                have hB0 : w.heap.size + 1 ≤ wi.heap.size := by omega
                clear hrow2
                go_wp2_with (at_builtin; refine wpList_append_own _ rfl _ _ 31 rfl (w.heap.size + 1) 41 i0 _ 2 8 Tryd.underlying31 hi hz0 hz1 hz2 rfl (by decide) _ _ _ rfl (hrl.out.alloc _) ⟨wi.heap.size, 0, none⟩ 1 1 [.int .i32 ((s[pos]'hp).toNat : Int), .bool false] rfl rfl (news11 _ rfl) (one11s _ _) (by unfold maxLen; omega) (by omega) (by simp; omega) ?_)
                intro vqq wqq hownqq hgrqq hnilqq
                have hgqq := grown_trans (grown_below (below_a1 wi _) _) hgrqq
                clear hgrqq hnilqq
                have hqq : Hid (wqq.ownsRow (w.heap.size + 1) 41 2 vqq (L ++ [((s[pos]'hp), false)]).length ((L ++ [((s[pos]'hp), false)]).flatMap stpC)) := Lib.hid (by rw [snocS, List.length_append]; exact hownqq)
                clear hownqq
                have hit3 := Lib.hid (show wqq.heap[w.heap.size]? = some (.stringIter s (pos + 1)) from (hgqq.block _ hsz2 hne.out).trans hit2)
                have hb3 := Lib.hid (hbw2.grown hgqq (Nat.le_of_lt hsz2) (fun j hj => by have := owns_ge8 hrl.out hj; omega))
                clear hgqq hrl
                go_wp2
                go_roundw
                case rel => exact ⟨pos + 1, L ++ [((s[pos]'hp), false)], false, rfl, by rw [List.length_append]; simp; omega, hit3.out, hb3.out, by omega, hnx2.out, hqq.out⟩
                case measure => simp only [World.iterPos, hit3.out] at *; omega
            | false =>
              have hbad : Hid (stF false s.data.toList = none) := Lib.hid (by rw [he.out, hst.out]; simp [stF, hq, h39])
              replace h39 := Lib.hid h39
              have hno : ¬ (s[pos]'hp).toNat = 35 ∧ ¬ (s[pos]'hp).toNat = 60 ∧ ¬ (s[pos]'hp).toNat = 62 := by simpa [mvQ] using hq
              obtain ⟨n1, n2, n3⟩ := hno
              have k1 : (((s[pos]'hp).toNat : Int) == 35) = false := beq_eq_false_iff_ne.2 (by omega)
              have k2 : (((s[pos]'hp).toNat : Int) == 60) = false := beq_eq_false_iff_ne.2 (by omega)
              have k3 : (((s[pos]'hp).toNat : Int) == 62) = false := beq_eq_false_iff_ne.2 (by omega)
              have k1' : ((s[pos]'hp).toNat == 35) = false := beq_eq_false_iff_ne.2 n1
              have k2' : ((s[pos]'hp).toNat == 60) = false := beq_eq_false_iff_ne.2 n2
              have k3' : ((s[pos]'hp).toNat == 62) = false := beq_eq_false_iff_ne.2 n3
              clear hq n1 n2 n3 hrow2
              go_wp2
              go_ret2
              exact ⟨hbw2, .inr ⟨.inr hbad.out, _, rfl⟩⟩
      · have hnx : ∀ ty, (Instr.next (.pointer (some ⟨w.heap.size, 0, none⟩)) true ty).run Tryd.prog wr = _ := fun ty => Lib.run_next_any_at wr w.heap.size s pos ty hit hp
        have hhi := decode_high s pos hp (by omega)
        have hbad : Hid (stF false s.data.toList = none) := Lib.hid (by
          rw [he.out, hst.out]
          have h1 : ¬ (s[pos]'hp).toNat = 39 := by omega
          have h2 : mvQ (s[pos]'hp) = false := by
            have h3 : ¬ (s[pos]'hp).toNat = 35 := by omega
            have h4 : ¬ (s[pos]'hp).toNat = 60 := by omega
            have h5 : ¬ (s[pos]'hp).toNat = 62 := by omega
            simp [mvQ, h3, h4, h5]
          have h3 : letQ (s[pos]'hp) = false := by
            have h3 : ¬ (s[pos]'hp).toNat ≤ 126 := by omega
            simp [letQ, h3]
          cases m <;> simp [stF, h1, h2, h3])
        have hbw2 := fun p' => Lib.below_iterAt hbw (k := w.heap.size) (Nat.le_refl _) s p'
        have hlo := hhi.1
        have hle := decode_le s pos
        clear hhi
        generalize (Utf8.decode s pos).1 = d at *
        have hd0 : inR d 33 126 = false := by
          cases hx : inR d 33 126 with
          | false => rfl
          | true => have := inR_iff.1 hx; omega
        have hcl := Lib.hid (fun W => in8_impl hd0 W)
        clear hd0
        have g1 : ((d : Int) == 39) = false := beq_eq_false_iff_ne.2 (by omega)
        have k1 : ((d : Int) == 35) = false := beq_eq_false_iff_ne.2 (by omega)
        have k2 : ((d : Int) == 60) = false := beq_eq_false_iff_ne.2 (by omega)
        have k3 : ((d : Int) == 62) = false := beq_eq_false_iff_ne.2 (by omega)
        clear hrow
        cases m with
        | true =>
          go_wp2_with fail
          refine (hcl.out _).mono ?_
          rintro e w1 ⟨rfl, rfl⟩
          go_wp2
          go_ret2
          exact ⟨hbw2 _, .inr ⟨.inr hbad.out, _, rfl⟩⟩
        | false =>
          go_wp2
          go_ret2
          exact ⟨hbw2 _, .inr ⟨.inr hbad.out, _, rfl⟩⟩
    · obtain rfl : pos = s.size := by omega
      have hnx : ∀ ty, (Instr.next (.pointer (some ⟨w.heap.size, 0, none⟩)) true ty).run Tryd.prog wr = _ := fun ty => Lib.run_next_end_at wr w.heap.size s s.size ty hit hp
      cases m with
      | false =>
        have hok : Hid (stF false s.data.toList = some L) := Lib.hid (by rw [he.out, List.drop_of_length_le (by rw [size_len11]; omega)]; simp [stF])
        obtain ⟨A, c, rfl, hO⟩ := ORow.of_owns (cells := stpC) (size := 2) (ys := L) (fun (x : Stp) => (rfl : (stpC x).length = 2)) hrow
        have hO2 := Lib.hid hO.srow
        clear hO hrow
        go_wp2
        go_ret2
        exact ⟨hbw, .inl ⟨L, A, c, hok.out, hLp, hs200, rfl, hO2.out⟩⟩
      | true =>
        have hbad : Hid (stF false s.data.toList = none) := Lib.hid (by rw [he.out, List.drop_of_length_le (by rw [size_len11]; omega)]; simp [stF])
        clear hrow
        go_wp2
        go_ret2
        exact ⟨hbw, .inr ⟨.inr hbad.out, _, rfl⟩⟩
end Go.Proofs.YtcmmcgjpaabnoaaDoor
