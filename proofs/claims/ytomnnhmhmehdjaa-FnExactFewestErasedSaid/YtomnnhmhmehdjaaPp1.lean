/- Corrections: the program's papers. -/
import Derived.Test.YtomnnhmhmehdjaaCo2
namespace Go.Proofs.Ytomnnhmhmehdjaa
open Go.RowKit Go.ChangeShapes Go.WideShapes Go.Deep
set_option linter.unusedVariables false
set_option linter.unusedSimpArgs false

theorem line12i (s : ByteArray) {v : Bool} (hv : lineC s = v) (w : World) (hs : s.size ≤ maxLen) :
    Calls Try.prog 75 #[.string s] w fun e w' => e = .returned (.bool v) ∧ w = w' := by
  have hc := Lib.hid (fun W => hasBytes_any s 32 126 60 v (by rw [← hv]; rfl) W hs)
  clear hv
  go_enter Try.func75, Try.ntmps75
  go_wp2_with (go_at_call 97; refine (hc.out _).mono ?_; rintro e w' ⟨rfl, rfl⟩)
  go_ret
  exact ⟨rfl, rfl⟩
theorem pat12 (s : ByteArray) (b a d : Int) (hd : a - b = d) (hb : -1000 ≤ b ∧ b ≤ 1000) (ha : -1000 ≤ a ∧ a ≤ 1000) {v : UInt8} (hv : atL s d = v) (w : World) (hs : s.size ≤ 1048576) :
    Calls Try.prog 99 #[.agg #[.string s, .int .i64 b], .int .i64 a] w fun e w' => e = .returned (.int .u8 (v.toNat : Int)) ∧ Below w.heap.size w w' := by
  have hw1 : IntKind.i64.wrap ((s.size : Int) - 1) = (s.size : Int) - 1 := IntWalk.i64_in _ (by omega)
  have hw0 : IntKind.i64.wrap (a - b) = d := by rw [hd]; exact IntWalk.i64_in _ (by omega)
  replace hd := Lib.hid hd
  cases h1 : inR d 0 ((s.size : Int) - 1) with
  | false =>
    have hr : Hid ((32 : Int) = (v.toNat : Int)) := Lib.hid (by rw [← hv, atL, h1]; rfl)
    have hc := Lib.hid (fun W => in8_impl h1 W)
    clear hv h1
    go_enter Try.func99, Try.ntmps99
    go_wp2_with fail
    refine (hc.out _).mono ?_
    rintro e w1 ⟨rfl, rfl⟩
    go_wp2
    go_ret
    exact ⟨ret_u12 hr.out, below_a1 _ _⟩
  | true =>
    have hc := Lib.hid (fun W => in8_impl h1 W)
    obtain ⟨a0, a1⟩ := inR_iff.1 h1
    obtain ⟨n, rfl⟩ := Int.eq_ofNat_of_zero_le a0
    have hlt : n < s.size := by omega
    have hr : Hid (((s[n]'hlt).toNat : Int) = (v.toNat : Int)) := Lib.hid (by rw [← hv, atL, h1, if_pos rfl, Int.toNat_natCast, bAt_eq hlt])
    have k0 : (0 : Int) ≤ (n : Int) := a0
    have k1 : (n : Int) < (s.size : Int) := by omega
    clear hv h1 a0 a1
    go_enter Try.func99, Try.ntmps99
    go_wp2_with fail
    refine (hc.out _).mono ?_
    rintro e w1 ⟨rfl, rfl⟩
    go_wp2
    go_ret
    exact ⟨ret_u12 hr.out, below_a1 _ _⟩
theorem owns_mono12 {w : World} {base base' : Nat} {E : TypeId} {size n : Nat} {v : Value} {xs : List Value} (h : w.ownsRow base E size v n xs) (hb : base' ≤ base) : w.ownsRow base' E size v n xs := by
  obtain ⟨h1, h2 | ⟨g, cap, cur, a, b, c⟩⟩ := h
  · exact ⟨h1, .inl h2⟩
  · exact ⟨h1, .inr ⟨g, cap, cur, a, Nat.le_trans hb b, c⟩⟩
/-- The places, from -60 on, at which a shifted line differs. -/
def difL (t s : ByteArray) (sh : Int) : Nat → List Int
  | 0 => []
  | k + 1 => difL t s sh k ++ if (atL t ((k : Int) - 60 - sh)).toNat = (atL s ((k : Int) - 60)).toNat then [] else [(k : Int) - 60]
theorem difL_len (t s : ByteArray) (sh : Int) : ∀ k, (difL t s sh k).length = shN t s sh k
  | 0 => rfl
  | k + 1 => by
    rw [difL, List.length_append, difL_len t s sh k, shN]
    congr 1
    split <;> rfl
set_option maxRecDepth 100000 in
set_option maxHeartbeats 2400000 in
theorem dif12i (t s : ByteArray) (sh : Int) (hsh : -60 ≤ sh ∧ sh ≤ 60) (w : World) (ht : t.size ≤ 1048576) (hs : s.size ≤ 1048576) :
    Calls Try.prog 80 #[.agg #[.string t, .int .i64 sh], .agg #[.string s, .int .i64 0]] w fun e w' => ∃ v, e = .returned v ∧ w'.ownsRow w.heap.size 2 1 v (shN t s sh 180) ((difL t s sh 180).flatMap intC) ∧ Below w.heap.size w w' := by
  obtain ⟨i0, hi, hz0, hz1, hz2⟩ := info_parts Try.infoI64
  go_enter Try.func80, Try.ntmps80
  go_wp2
  go_loopw [5, 6] (fun o a wr => ∃ k : Nat, k ≤ 180 ∧ a = .int .i64 ((k : Int) - 60) ∧ wr.ownsRow (w.heap.size + 1 + 1) 2 1 o (shN t s sh k) ((difL t s sh k).flatMap intC) ∧ (fun w' => Below w.heap.size w w' ∧ w'.cell? ⟨w.heap.size, 0, none⟩ = some (.string t) ∧ w'.cell? ⟨w.heap.size, 1, none⟩ = some (.int .i64 sh) ∧ w'.cell? ⟨w.heap.size + 1, 0, none⟩ = some (.string s) ∧ w'.cell? ⟨w.heap.size + 1, 1, none⟩ = some (.int .i64 0)) wr) (fun _ a _ => (120 - intOf a).toNat)
  case atStart => exact ⟨0, by omega, rfl, owns_nil8 _ _ _, below_a2 _ _ _, cell_step (cell_new (by simp) rfl) (below_a1 _ _), cell_step (cell_new (by simp) rfl) (below_a1 _ _), cell_new (by simp) rfl, cell_new (by simp) rfl⟩
  case round =>
    rename World => wr
    obtain ⟨k, hk, rfl, hrow, hbw, c0, c1, d0, d1⟩ := hrel
    have hwz := hbw.size
    have hle := shN_le t s sh k
    have hst := Lib.hid (show shN t s sh (k + 1) = shN t s sh k + if (atL t ((k : Int) - 60 - sh)).toNat = (atL s ((k : Int) - 60)).toNat then 0 else 1 from rfl)
    have hdf := Lib.hid (show difL t s sh (k + 1) = difL t s sh k ++ if (atL t ((k : Int) - 60 - sh)).toNat = (atL s ((k : Int) - 60)).toNat then [] else [(k : Int) - 60] from rfl)
    have hrl := Lib.hid hrow
    clear hrow
    by_cases hlt : k < 180
    · obtain ⟨a, ha⟩ : ∃ a : Int, (k : Int) - 60 = a := ⟨_, rfl⟩
      rw [ha] at hst hdf ⊢
      have g1 : a < 120 := by omega
      have hw2 : IntKind.i64.wrap (a + 1) = ((k + 1 : Nat) : Int) - 60 := by rw [IntWalk.i64_in _ (by omega)]; omega
      have hc1 := Lib.hid (fun W => pat12 t sh a (a - sh) rfl (by omega) (by omega) rfl W ht)
      have hc2 := Lib.hid (fun W => pat12 s 0 a a (Int.sub_zero a) (by omega) (by omega) rfl W hs)
      generalize atL t (a - sh) = p at *
      generalize atL s a = q at *
      replace ha := Lib.hid ha
      by_cases hpq : p.toNat = q.toNat
      · have y1 : ((p.toNat : Int) == (q.toNat : Int)) = true := beq_iff_eq.2 (by omega)
        have y2 : ((p.toNat : Int) != (q.toNat : Int)) = false := by rw [bne, y1]; rfl
        have y3 : (p.toNat == q.toNat) = true := beq_iff_eq.2 hpq
        have hq := Lib.hid (show shN t s sh (k + 1) = shN t s sh k by rw [hst.out, if_pos hpq]; rfl)
        have hqd := Lib.hid (show difL t s sh (k + 1) = difL t s sh k by rw [hdf.out, if_pos hpq, List.append_nil])
        clear hst hpq hdf
        go_wp2_with fail
        refine wp_region_held_drew (S := fun w' => Below wr.heap.size wr w' ∧ w'.cell? ⟨w.heap.size, 0, none⟩ = some (.string t) ∧ w'.cell? ⟨w.heap.size, 1, none⟩ = some (.int .i64 sh) ∧ w'.cell? ⟨w.heap.size + 1, 0, none⟩ = some (.string s) ∧ w'.cell? ⟨w.heap.size + 1, 1, none⟩ = some (.int .i64 0)) (by kernel_rfl) ?_ (fun hHeld => ?_)
        · exact ⟨(Below.refl _ wr).drew, cell_step c0 ((Below.refl _ wr).drew), cell_step c1 ((Below.refl _ wr).drew), cell_step d0 ((Below.refl _ wr).drew), cell_step d1 ((Below.refl _ wr).drew)⟩
        refine wpAnyH_take (i := 0) (v := ?vaU1_0) rfl (by kernel_rfl) (by kernel_rfl) (by kernel_rfl) (fun _ _ _ h => h) (Or.inl ⟨rfl, ?yaU1_0⟩) (by assumption) ?_
        case yaU1_0 => (intro w hSw; (try dsimp only at hSw); go_simp; first | done | with_reducible rfl)
        simp only [List.getElem_toArray, List.getElem_cons_succ, List.getElem_cons_zero, Act.put, List.setIfInBounds_toArray, List.set_cons_zero, List.set_cons_succ]
        refine wpAnyH_take (i := 1) (v := ?vaU1_1) rfl (by kernel_rfl) (by kernel_rfl) (by kernel_rfl) (fun _ _ _ h => h) (Or.inl ⟨rfl, ?yaU1_1⟩) (by assumption) ?_
        case yaU1_1 => (intro w hSw; (try dsimp only at hSw); go_simp; first | done | with_reducible rfl)
        simp only [List.getElem_toArray, List.getElem_cons_succ, List.getElem_cons_zero, Act.put, List.setIfInBounds_toArray, List.set_cons_zero, List.set_cons_succ]
        refine wpAnyH_take (i := 3) (v := ?vaU1_3) rfl (by kernel_rfl) (by kernel_rfl) (by kernel_rfl) (fun _ _ _ h => h) (Or.inl ⟨rfl, ?yaU1_3⟩) (by assumption) ?_
        case yaU1_3 => (intro w hSw; (try dsimp only at hSw); go_simp; first | done | with_reducible rfl)
        simp only [List.getElem_toArray, List.getElem_cons_succ, List.getElem_cons_zero, Act.put, List.setIfInBounds_toArray, List.set_cons_zero, List.set_cons_succ]
        refine wpAnyH_take (i := 4) (v := ?vaU1_4) rfl (by kernel_rfl) (by kernel_rfl) (by kernel_rfl) (fun _ _ _ h => h) (Or.inl ⟨rfl, ?yaU1_4⟩) (by assumption) ?_
        case yaU1_4 => (intro w hSw; (try dsimp only at hSw); go_simp; first | done | with_reducible rfl)
        simp only [List.getElem_toArray, List.getElem_cons_succ, List.getElem_cons_zero, Act.put, List.setIfInBounds_toArray, List.set_cons_zero, List.set_cons_succ]
        refine wpAnyH_ready (rs := [2]) (by kernel_rfl) (by simp) ?_
        refine AllReadyH.cons rfl (fun K hK => ?_) AllReadyH.nil
        go_simp
        refine (hc1.out _).mono ?_
        rintro e w5 ⟨rfl, hb5⟩
        go_wp2_with fail
        refine hK.out _ _ ?_ (fun hHeld => ?_)
        · exact ⟨hHeld.1.trans (hb5.mono hHeld.1.size), cell_step hHeld.2.1 hb5, cell_step hHeld.2.2.1 hb5, cell_step hHeld.2.2.2.1 hb5, cell_step hHeld.2.2.2.2 hb5⟩
        clear hK K
        try simp only [List.getElem_toArray, List.getElem_cons_succ, List.getElem_cons_zero, Act.put, List.setIfInBounds_toArray, List.set_cons_zero, List.set_cons_succ]
        refine wpAnyH_ready (rs := [5]) (by kernel_rfl) (by simp) ?_
        refine AllReadyH.cons rfl (fun K hK => ?_) AllReadyH.nil
        go_simp
        refine (hc2.out _).mono ?_
        rintro e w6 ⟨rfl, hb6⟩
        go_wp2_with fail
        refine hK.out _ _ ?_ (fun hHeld => ?_)
        · exact ⟨hHeld.1.trans (hb6.mono hHeld.1.size), cell_step hHeld.2.1 hb6, cell_step hHeld.2.2.1 hb6, cell_step hHeld.2.2.2.1 hb6, cell_step hHeld.2.2.2.2 hb6⟩
        clear hK K
        try simp only [List.getElem_toArray, List.getElem_cons_succ, List.getElem_cons_zero, Act.put, List.setIfInBounds_toArray, List.set_cons_zero, List.set_cons_succ]
        refine wpAnyH_take (i := 6) (v := ?vaU1_6) rfl (by kernel_rfl) (by kernel_rfl) (by kernel_rfl) (fun _ _ _ h => h) (Or.inl ⟨rfl, ?yaU1_6⟩) (by assumption) ?_
        case yaU1_6 => (intro w hSw; (try dsimp only at hSw); go_simp; first | done | with_reducible rfl)
        simp only [List.getElem_toArray, List.getElem_cons_succ, List.getElem_cons_zero, Act.put, List.setIfInBounds_toArray, List.set_cons_zero, List.set_cons_succ]
        refine wpAnyH_done (by kernel_rfl) ?_ _
        obtain ⟨hbx, c0', c1', d0', d1'⟩ := hHeld
        have hbn := Lib.hid (hbw.step hbx)
        have hrn := Lib.hid (own_keep10 hrl.out hbx)
        have hHn := Lib.hid (And.intro c0' (And.intro c1' (And.intro d0' d1')))
        clear c0 c1 d0 d1 c0' c1' d0' d1' hbw hbx hrl
        go_wp2
        go_roundw
        case rel => exact ⟨k + 1, by omega, by go_num, by rw [hq.out, hqd.out]; exact hrn.out, hbn.out, hHn.out⟩
        case measure => have := ha.out; simp [intOf]; omega
      · have y1 : ((p.toNat : Int) == (q.toNat : Int)) = false := beq_eq_false_iff_ne.2 (by omega)
        have y2 : ((p.toNat : Int) != (q.toNat : Int)) = true := by rw [bne, y1]; rfl
        have y3 : (p.toNat == q.toNat) = false := beq_eq_false_iff_ne.2 hpq
        have hq := Lib.hid (show shN t s sh (k + 1) = shN t s sh k + 1 by rw [hst.out, if_neg hpq])
        have hqd := Lib.hid (show difL t s sh (k + 1) = difL t s sh k ++ [a] by rw [hdf.out, if_neg hpq])
        clear hst hpq hdf
        go_wp2_with fail
        refine wp_region_held_drew (S := fun w' => Below wr.heap.size wr w' ∧ w'.cell? ⟨w.heap.size, 0, none⟩ = some (.string t) ∧ w'.cell? ⟨w.heap.size, 1, none⟩ = some (.int .i64 sh) ∧ w'.cell? ⟨w.heap.size + 1, 0, none⟩ = some (.string s) ∧ w'.cell? ⟨w.heap.size + 1, 1, none⟩ = some (.int .i64 0)) (by kernel_rfl) ?_ (fun hHeld => ?_)
        · exact ⟨(Below.refl _ wr).drew, cell_step c0 ((Below.refl _ wr).drew), cell_step c1 ((Below.refl _ wr).drew), cell_step d0 ((Below.refl _ wr).drew), cell_step d1 ((Below.refl _ wr).drew)⟩
        refine wpAnyH_take (i := 0) (v := ?vbU2_0) rfl (by kernel_rfl) (by kernel_rfl) (by kernel_rfl) (fun _ _ _ h => h) (Or.inl ⟨rfl, ?ybU2_0⟩) (by assumption) ?_
        case ybU2_0 => (intro w hSw; (try dsimp only at hSw); go_simp; first | done | with_reducible rfl)
        simp only [List.getElem_toArray, List.getElem_cons_succ, List.getElem_cons_zero, Act.put, List.setIfInBounds_toArray, List.set_cons_zero, List.set_cons_succ]
        refine wpAnyH_take (i := 1) (v := ?vbU2_1) rfl (by kernel_rfl) (by kernel_rfl) (by kernel_rfl) (fun _ _ _ h => h) (Or.inl ⟨rfl, ?ybU2_1⟩) (by assumption) ?_
        case ybU2_1 => (intro w hSw; (try dsimp only at hSw); go_simp; first | done | with_reducible rfl)
        simp only [List.getElem_toArray, List.getElem_cons_succ, List.getElem_cons_zero, Act.put, List.setIfInBounds_toArray, List.set_cons_zero, List.set_cons_succ]
        refine wpAnyH_take (i := 3) (v := ?vbU2_3) rfl (by kernel_rfl) (by kernel_rfl) (by kernel_rfl) (fun _ _ _ h => h) (Or.inl ⟨rfl, ?ybU2_3⟩) (by assumption) ?_
        case ybU2_3 => (intro w hSw; (try dsimp only at hSw); go_simp; first | done | with_reducible rfl)
        simp only [List.getElem_toArray, List.getElem_cons_succ, List.getElem_cons_zero, Act.put, List.setIfInBounds_toArray, List.set_cons_zero, List.set_cons_succ]
        refine wpAnyH_take (i := 4) (v := ?vbU2_4) rfl (by kernel_rfl) (by kernel_rfl) (by kernel_rfl) (fun _ _ _ h => h) (Or.inl ⟨rfl, ?ybU2_4⟩) (by assumption) ?_
        case ybU2_4 => (intro w hSw; (try dsimp only at hSw); go_simp; first | done | with_reducible rfl)
        simp only [List.getElem_toArray, List.getElem_cons_succ, List.getElem_cons_zero, Act.put, List.setIfInBounds_toArray, List.set_cons_zero, List.set_cons_succ]
        refine wpAnyH_ready (rs := [2]) (by kernel_rfl) (by simp) ?_
        refine AllReadyH.cons rfl (fun K hK => ?_) AllReadyH.nil
        go_simp
        refine (hc1.out _).mono ?_
        rintro e w5 ⟨rfl, hb5⟩
        go_wp2_with fail
        refine hK.out _ _ ?_ (fun hHeld => ?_)
        · exact ⟨hHeld.1.trans (hb5.mono hHeld.1.size), cell_step hHeld.2.1 hb5, cell_step hHeld.2.2.1 hb5, cell_step hHeld.2.2.2.1 hb5, cell_step hHeld.2.2.2.2 hb5⟩
        clear hK K
        try simp only [List.getElem_toArray, List.getElem_cons_succ, List.getElem_cons_zero, Act.put, List.setIfInBounds_toArray, List.set_cons_zero, List.set_cons_succ]
        refine wpAnyH_ready (rs := [5]) (by kernel_rfl) (by simp) ?_
        refine AllReadyH.cons rfl (fun K hK => ?_) AllReadyH.nil
        go_simp
        refine (hc2.out _).mono ?_
        rintro e w6 ⟨rfl, hb6⟩
        go_wp2_with fail
        refine hK.out _ _ ?_ (fun hHeld => ?_)
        · exact ⟨hHeld.1.trans (hb6.mono hHeld.1.size), cell_step hHeld.2.1 hb6, cell_step hHeld.2.2.1 hb6, cell_step hHeld.2.2.2.1 hb6, cell_step hHeld.2.2.2.2 hb6⟩
        clear hK K
        try simp only [List.getElem_toArray, List.getElem_cons_succ, List.getElem_cons_zero, Act.put, List.setIfInBounds_toArray, List.set_cons_zero, List.set_cons_succ]
        refine wpAnyH_take (i := 6) (v := ?vbU2_6) rfl (by kernel_rfl) (by kernel_rfl) (by kernel_rfl) (fun _ _ _ h => h) (Or.inl ⟨rfl, ?ybU2_6⟩) (by assumption) ?_
        case ybU2_6 => (intro w hSw; (try dsimp only at hSw); go_simp; first | done | with_reducible rfl)
        simp only [List.getElem_toArray, List.getElem_cons_succ, List.getElem_cons_zero, Act.put, List.setIfInBounds_toArray, List.set_cons_zero, List.set_cons_succ]
        refine wpAnyH_done (by kernel_rfl) ?_ _
        obtain ⟨hbx, c0', c1', d0', d1'⟩ := hHeld
        have hwq := hbx.size
        have hw6 := World.block_lt_of_cell? _ _ d0'
        simp only at hw6
        have hbn := Lib.hid (hbw.step hbx)
        have hrn := Lib.hid (own_keep10 hrl.out hbx)
        have hHn := Lib.hid (And.intro c0' (And.intro c1' (And.intro d0' d1')))
        clear c0 c1 d0 d1 c0' c1' d0' d1' hbw hbx hrl
        go_wp2_with (at_builtin; refine wpList_append_own _ rfl _ _ 42 rfl (w.heap.size + 1 + 1) 2 i0 _ 1 8 Try.underlying42 hi hz0 hz1 hz2 rfl (by decide) _ _ _ rfl (hrn.out.alloc _) ⟨w6.heap.size, 0, none⟩ 1 1 [.int .i64 a] rfl rfl (news8 _ _ _) (one8 _) (by unfold maxLen; omega) (by omega) (by simp; omega) ?_)
        intro vq wq hown hgr hnil
        have hgq := grown_trans (grown_below (below_a1 w6 _) _) hgr
        have hne := fun (j : Nat) hj => owns_ge8 (g := j) hrn.out hj
        have hbq := Lib.hid (hbn.out.grown hgq (Nat.le_trans hwz hwq) (fun j hj => by have := hne j hj; omega))
        have hkp : ∀ {b o : Nat} {u : Value}, b < w.heap.size + 1 + 1 → w6.cell? ⟨b, o, none⟩ = some u → wq.cell? ⟨b, o, none⟩ = some u := fun {b o u} hb h0 => by
          have hlt0 := World.block_lt_of_cell? _ _ h0
          have hk0 := hgq.block b hlt0 (fun e => by have := hne b e.symm; omega)
          unfold World.cell? at h0 ⊢
          rw [hk0]
          exact h0
        obtain ⟨e0, e1, e2, e3⟩ := hHn.out
        have hHq := Lib.hid (And.intro (hkp (by omega) e0) (And.intro (hkp (by omega) e1) (And.intro (hkp (by omega) e2) (hkp (by omega) e3))))
        have hrq := Lib.hid hown
        clear e0 e1 e2 e3 hkp hgq hown hrn hHn hbn hnil hgr
        go_wp2
        go_roundw
        case rel => exact ⟨k + 1, by omega, by go_num, by rw [hq.out, hqd.out, snoc8]; exact hrq.out, hbq.out, hHq.out⟩
        case measure => have := ha.out; simp [intOf]; omega
    · obtain rfl : k = 180 := by omega
      simp only [show (((180 : Nat) : Int) - 60) = 120 from rfl]
      have hbn := Lib.hid hbw
      clear c0 c1 d0 d1 hbw
      go_wp2
      go_ret
      exact ⟨_, rfl, owns_mono12 hrl.out (by omega), hbn.out⟩
end Go.Proofs.Ytomnnhmhmehdjaa
