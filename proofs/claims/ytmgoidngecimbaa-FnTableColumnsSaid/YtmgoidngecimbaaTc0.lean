/- Tables and columns: what the law tells of them, without a program. -/
import Derived.Test.YtmgoidngecimbaaTl0
import Derived.Test.YtmgoidngecimbaaTabG
import Derived.Test.YtmgoidngecimbaaTab1
namespace Go.Proofs.Ytmgoidngecimbaa
open Go.RowKit Go.ChangeShapes Go.WideShapes Go.Deep
set_option linter.unusedVariables false
set_option linter.unusedSimpArgs false

theorem rises_rng {hi : Int} : ∀ {xs : List Int} {lo : Int}, risesB hi lo xs = true → ∀ x ∈ xs, lo ≤ x ∧ x ≤ hi
  | [], _, _, x, hx => by cases hx
  | y :: r, lo, h, x, hx => by
    simp only [risesB, Bool.and_eq_true, inR_iff] at h
    rcases List.mem_cons.1 hx with rfl | hx
    · exact h.1
    · have := rises_rng h.2 x hx
      omega
theorem stops_step (gap : Int) : ∀ (ws : List Int) (a : Int) (i : Nat) (x y z : Int), (stopsL gap a ws)[i]? = some x → (stopsL gap a ws)[i + 1]? = some y → ws[i]? = some z → y = x + z + gap
  | [], a, i, x, y, z, h, _, _ => by simp [stopsL] at h
  | [w0], a, 0, x, y, z, _, h, _ => by simp [stopsL] at h
  | w0 :: w1 :: r, a, 0, x, y, z, h1, h2, h3 => by
    simp [stopsL] at h1 h2 h3
    omega
  | w0 :: r, a, i + 1, x, y, z, h1, h2, h3 => by
    simp only [stopsL, List.getElem?_cons_succ] at h1 h2 h3
    exact stops_step gap r _ i x y z h1 h2 h3
/-- What is known of the stops of columns. -/
theorem stops_law {ws : List Int} {left gap : Int} {L : List Int} (h : stopsR ws left gap = (L, 0)) : L.length = ws.length ∧ 1 ≤ gap ∧ gap ≤ 120 ∧ ws.length ≤ 12 ∧ (∀ x ∈ ws, 0 ≤ x ∧ x ≤ 120) ∧ (∀ x ∈ L, 0 ≤ x ∧ x ≤ 119) ∧ ∀ (i : Nat) (x y z : Int), L[i]? = some x → L[i + 1]? = some y → ws[i]? = some z → y = x + z + gap := by
  unfold stopsR at h
  split at h
  · rename_i h1
    simp only [Bool.and_eq_true, inR_iff] at h1
    split at h
    · rename_i h2
      simp only [Bool.and_eq_true] at h2
      obtain ⟨rfl, _⟩ := Prod.mk.inj h
      have hw := widthsB_len h1.1.1
      exact ⟨stopsL_len gap ws left, h1.2.1, h1.2.2, hw.2.1, hw.2.2, rises_rng (rackB_len h2.2).2, stops_step gap ws left⟩
    · cases (Prod.mk.inj h).2
  · cases (Prod.mk.inj h).2
/-- What is known of the widest gap. -/
theorem gap_law {ws : List Int} {left right n : Int} (h : gapR ws left right = (n, 0)) : 2 ≤ ws.length ∧ ws.length ≤ 12 ∧ (∀ x ∈ ws, 0 ≤ x ∧ x ≤ 120) ∧ 0 ≤ left ∧ left ≤ right ∧ right ≤ 120 ∧ 1 ≤ n ∧ n ≤ 120 ∧ sumI ws + ((ws.length : Int) - 1) * n ≤ right - left ∧ right - left < sumI ws + ((ws.length : Int) - 1) * (n + 1) := by
  unfold gapR at h
  split at h
  · rename_i h1
    simp only [gapOk, Bool.and_eq_true, inR_iff] at h1
    have hw := widthsB_len h1.1.1
    split at h
    · cases (Prod.mk.inj h).2
    · rename_i h2
      split at h
      · cases (Prod.mk.inj h).2
      · rename_i h3
        obtain ⟨h4, _⟩ := Prod.mk.inj h
        have hs := sumI_range ws hw.2.2
        generalize hD : right - left - sumI ws = D at *
        generalize hm : (ws.length : Int) - 1 = m at *
        have hm1 : 1 ≤ m := by omega
        have hD0 : 0 ≤ D := by omega
        rw [Int.tdiv_eq_ediv_of_nonneg hD0] at h4
        have g1 := Int.mul_ediv_self_le (x := D) (k := m) (by omega)
        have g2 := Int.lt_mul_ediv_self_add (x := D) (k := m) (by omega)
        rw [h4] at g1 g2
        have g3 : m * (n + 1) = m * n + m := by rw [Int.mul_add, Int.mul_one]
        have hn1 : 1 ≤ n := by
          rw [← h4]
          exact (Int.le_ediv_iff_mul_le (by omega)).2 (by omega)
        have hn2 : n ≤ m * n := by
          have := Int.mul_le_mul_of_nonneg_right hm1 (show 0 ≤ n by omega)
          omega
        refine ⟨by omega, hw.2.1, hw.2.2, by omega, by omega, by omega, hn1, by omega, by omega, by omega⟩
  · cases (Prod.mk.inj h).2
theorem pn_blanks : ∀ (k : Nat) (l : List UInt8), pn (List.replicate k 32 ++ l) = k + pn l
  | 0, l => by simp
  | k + 1, l => by
    rw [List.replicate_succ, List.cons_append, pn, if_neg (by decide), pn_blanks k l]
    omega
/-- The points of aligned numbers stand in one column. -/
theorem point_law {l out : List ByteArray} (h : alR l = (out, 0)) : ∃ m : Int, ∀ s ∈ out, pnI s = m := by
  unfold alR at h
  split at h
  · rename_i h1
    split at h
    · obtain ⟨rfl, _⟩ := Prod.mk.inj h
      simp only [Bool.and_eq_true] at h1
      have hr := mostP_range (all_short h1.1)
      refine ⟨mostP l, fun s hs => ?_⟩
      obtain ⟨x, hx, rfl⟩ := List.mem_map.1 hs
      have h2 := hr.2.2 x hx
      have h3 : (padS (mostP l) x).data.toList = List.replicate (mostP l - pnI x).toNat 32 ++ x.data.toList := by
        simp [padS, blanksB, ByteArray.data_append]
      rw [pnI, h3, pn_blanks]
      unfold pnI at h2 ⊢
      omega
    · cases (Prod.mk.inj h).2
  · cases (Prod.mk.inj h).2
theorem lineL_sum (sep : List UInt8) : ∀ cells : List ByteArray, cells ≠ [] → ((lineL sep cells).length : Int) = sumI (cells.map fun s => (s.size : Int)) + (sep.length : Int) * ((cells.length : Int) - 1)
  | [], h => absurd rfl h
  | [x], _ => by
    have hx : x.data.toList.length = x.size := rfl
    simp [lineL, Lib.join, List.intercalate, sumI, hx]
  | x :: y :: r, _ => by
    have ih := lineL_sum sep (y :: r) (by simp)
    have hx : x.data.toList.length = x.size := rfl
    have hj : lineL sep (x :: y :: r) = x.data.toList ++ sep ++ lineL sep (y :: r) := by
      simp [lineL, Lib.join, List.intercalate, List.intersperse_cons_cons]
    rw [hj, List.length_append, List.length_append, hx]
    simp only [List.map_cons, sumI, List.length_cons] at ih ⊢
    have e : (sep.length : Int) * (((r.length + 1 + 1 : Nat) : Int) - 1) = (sep.length : Int) * (((r.length + 1 : Nat) : Int) - 1) + sep.length := by
      have : (((r.length + 1 + 1 : Nat) : Int) - 1) = (((r.length + 1 : Nat) : Int) - 1) + 1 := by omega
      rw [this, Int.mul_add, Int.mul_one]
    rw [e]
    omega
theorem padC_size8 {c : UInt8} {v : Int} {s : ByteArray} (h0 : (s.size : Int) ≤ v) : ((padC c v s).size : Int) = v := by
  have hb : (blanksB (v - s.size).toNat).size = (v - s.size).toNat := blanksB_size _
  unfold padC
  split <;> rw [ByteArray.size_append, hb] <;> omega
theorem pads_map : ∀ (cs : List UInt8) (vs : List Int) (r : List ByteArray) (m : Nat), cs.length = m → vs.length = m → r.length = m → (∀ (k : Nat) (v : Int) (s : ByteArray), vs[k]? = some v → r[k]? = some s → (s.size : Int) ≤ v) → (padsL cs vs r).map (fun s => (s.size : Int)) = vs
  | [], [], [], m, _, _, _, _ => rfl
  | c :: cs, v :: vs, s :: r, m, h1, h2, h3, h => by
    simp only [List.length_cons] at h1 h2 h3
    have := pads_map cs vs r (m - 1) (by omega) (by omega) (by omega) (fun k v s hv hs => h (k + 1) v s (by simpa using hv) (by simpa using hs))
    simp only [padsL, List.map_cons, this, padC_size8 (h 0 v s rfl rfl)]
  | [], _ :: _, _, m, h1, h2, _, _ => by simp at h1 h2; omega
  | [], [], _ :: _, m, h1, _, h3, _ => by simp at h1 h3; omega
  | _ :: _, [], _, m, h1, h2, _, _ => by simp at h1 h2; omega
  | _ :: _, _ :: _, [], m, h1, _, h3, _ => by simp at h1 h3; omega
/-- All lines of a table are as long as its columns with the gaps between. -/
theorem lines_law {rows : List (List ByteArray)} {sides : ByteArray} {gap : Int} {out : List ByteArray} (h : tlR rows sides gap = (out, 0)) : colR rows = (widL (colsN rows) rows, 0) ∧ out.length = rows.length ∧ (widL (colsN rows) rows).length ≤ 12 ∧ (∀ x ∈ widL (colsN rows) rows, 0 ≤ x ∧ x ≤ 120) ∧ 0 ≤ gap ∧ gap ≤ 20 ∧ ∀ s ∈ out, (s.size : Int) = sumI (widL (colsN rows) rows) + gap * (((widL (colsN rows) rows).length : Int) - 1) := by
  unfold tlR at h
  split at h
  · rename_i h1
    split at h
    · rename_i h2
      simp only [Bool.and_eq_true, inR_iff, decide_eq_true_eq] at h2
      obtain ⟨rfl, _⟩ := Prod.mk.inj h
      obtain ⟨hl1, hl2, hc1, hc2, hrows⟩ := tableB_ok h1
      have hwl : (widL (colsN rows) rows).length = colsN rows := widL_len (by simp) (fun y hy => (hrows y hy).1)
      refine ⟨by simp [colR, h1], by simp, by omega, fun x hx => ?_, by omega, by omega, fun s hs => ?_⟩
      · obtain ⟨k, hk, rfl⟩ := List.getElem_of_mem hx
        obtain ⟨v, hv, v0, v30, _⟩ := wid_cell hrows (k := k) (by omega)
        rw [List.getElem?_eq_getElem hk] at hv
        rw [Option.some.inj hv]
        omega
      · obtain ⟨r, hr, rfl⟩ := List.mem_map.1 hs
        have hpm : (padsL sides.data.toList (widL (colsN rows) rows) r).map (fun s => (s.size : Int)) = widL (colsN rows) rows :=
          pads_map _ _ _ (colsN rows) h2.1.2 hwl (hrows r hr).1 (fun k v s hv hs => by
            have hk : k < colsN rows := by rw [← hwl]; exact (List.getElem?_eq_some_iff.1 hv).1
            obtain ⟨v', hv', _, _, hle⟩ := wid_cell hrows (k := k) hk
            rw [hv] at hv'
            rw [Option.some.inj hv']
            exact hle r hr s hs)
        have hpl : (padsL sides.data.toList (widL (colsN rows) rows) r).length = colsN rows := padsL_len _ _ _ _ h2.1.2 hwl (hrows r hr).1
        have hne : padsL sides.data.toList (widL (colsN rows) rows) r ≠ [] := fun e => by rw [e] at hpl; simp at hpl; omega
        have hsz : (lineT gap.toNat (padsL sides.data.toList (widL (colsN rows) rows) r)).size = (lineL (List.replicate gap.toNat 32) (padsL sides.data.toList (widL (colsN rows) rows) r)).length := by simp [lineT, ByteArray.size]
        rw [hsz, lineL_sum _ _ hne, hpm, hpl, hwl, List.length_replicate]
        congr 2
        omega
    · cases (Prod.mk.inj h).2
  · cases (Prod.mk.inj h).2
end Go.Proofs.Ytmgoidngecimbaa
