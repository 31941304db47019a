/- Corrections: the model's plan. -/
import Derived.Test.YtomnnhmhmehdjaaCo5
import Derived.Maps.AppendAt
namespace Go.Proofs.Ytomnnhmhmehdjaa
open Go.RowKit Go.ChangeShapes Go.WideShapes Go.Deep
set_option linter.unusedVariables false
set_option linter.unusedSimpArgs false

/-- What the plan says of a place, and the letter that is typed there. -/
def plO (ps : List OverD) (a b : UInt8) : UInt8 × UInt8 := if a = b then (46, 32) else if (topV ps a b).toNat = 0 then (35, b) else (43, topV ps a b)
def planL (ps : List OverD) (t s : ByteArray) (k : Nat) : List UInt8 := (List.range' 0 k).map fun i => (plO ps (bAt t i) (bAt s i)).1
def letsL (ps : List OverD) (t s : ByteArray) (k : Nat) : List UInt8 := (List.range' 0 k).map fun i => (plO ps (bAt t i) (bAt s i)).2
theorem planL_next (ps : List OverD) (t s : ByteArray) (k : Nat) : planL ps t s (k + 1) = planL ps t s k ++ [(plO ps (bAt t k) (bAt s k)).1] := by
  rw [planL, List.range'_concat, List.map_append, planL]
  simp
theorem letsL_next (ps : List OverD) (t s : ByteArray) (k : Nat) : letsL ps t s (k + 1) = letsL ps t s k ++ [(plO ps (bAt t k) (bAt s k)).2] := by
  rw [letsL, List.range'_concat, List.map_append, letsL]
  simp
theorem planL_len (ps : List OverD) (t s : ByteArray) (k : Nat) : (planL ps t s k).length = k := by simp [planL]
theorem letsL_len (ps : List OverD) (t s : ByteArray) (k : Nat) : (letsL ps t s k).length = k := by simp [letsL]
/-- Two rows of the call's own that do not share their memory. -/
def Apart (v u : Value) : Prop := ∀ j, v.ownBlock = some j → u.ownBlock ≠ some j
theorem Apart.symm {v u : Value} (h : Apart v u) : Apart u v := fun j hj hv => h j hv hj
theorem owns_lt12 {w : World} {base : Nat} {E : TypeId} {size n g : Nat} {v : Value} {xs : List Value} (h : w.ownsRow base E size v n xs) (hg : v.ownBlock = some g) : g < w.heap.size := by
  obtain ⟨_, ⟨rfl, _⟩ | ⟨g', cap, cur, rfl, hb, hh, _⟩⟩ := h
  · cases hg
  · cases hg
    exact (Array.getElem?_eq_some_iff.1 hh).1
theorem pair12 {B : Nat} {wr wq : World} {v vq u : Value} {L M : List UInt8} {x : Obj} (hv : OByt wr B v L) (hu : OByt wr B u M) (hap : Apart v u) (hg : (wr.alloc x).grownBy wq v.ownBlock)
    (hat : vq.ownBlock = v.ownBlock ∨ vq.ownBlock = some (wr.heap.size + 1)) : OByt wq B u M ∧ Apart vq u := by
  refine ⟨World.ownsRow.kept (hu.alloc _) hg ?_, ?_⟩
  · cases hub : u.ownBlock with
    | none => exact Or.inl rfl
    | some j =>
      refine Or.inr fun e => ?_
      exact hap j e.symm hub
  · intro j hj hub
    rcases hat with h | h
    · exact hap j (h.symm.trans hj) hub
    · have h1 := owns_lt12 hu hub
      have h2 : some (wr.heap.size + 1) = some j := h.symm.trans hj
      have h3 := Option.some.inj h2
      omega
theorem byt_draw {w : World} {B j : Nat} {v : Value} {l : List UInt8} (h : OByt w B v l) : OByt (w.drewN j) B v l := own_keep10 h (below_drewN (Below.refl _ _) _)
set_option maxHeartbeats 2400000 in
theorem plan12 (A : Option Addr) (n c : Nat) (ps : List OverD) (t s : ByteArray) (hts : t.size = s.size) (hs : s.size ≤ 60) (w : World) (h : Overs w A n ps) (hn : n ≤ 1048576) (hone : ∀ x ∈ ps, x.under.size = 1 ∧ x.top.size = 1 ∧ x.seen.size = 1) :
    Calls Try.prog 60 #[.slice A n c, .string t, .string s] w fun e w' => e = .returned (.tuple #[.string ⟨(planL ps t s s.size).toArray⟩, .string ⟨(letsL ps t s s.size).toArray⟩]) ∧ Below w.heap.size w w' := by
  have hcall := Lib.hid (fun (u q : UInt8) W (hW : Overs W A n ps) => top12 A n c ps u q rfl W hW hn hone)
  obtain ⟨i0, hi, hz0, hz1, hz2⟩ := info_parts Try.infoByt
  clear hone
  go_enter Try.func60, Try.ntmps60
  go_wp2
  go_loopw [8, 9, 10] (fun v u i wr => ∃ (k : Nat) (v' u' : Value), v' = v ∧ u' = u ∧ k ≤ s.size ∧ i = .int .i64 k ∧ Below w.heap.size w wr ∧ OByt wr w.heap.size v (planL ps t s k) ∧ OByt wr w.heap.size u (letsL ps t s k) ∧ Apart v u) (fun _ _ i _ => s.size - (intOf i).toNat)
  case atStart =>
    refine ⟨0, _, _, rfl, rfl, by omega, rfl, below_a2 _ _ _, ?_, ?_, ?_⟩
    · exact own_keep10 (byt_new w) (below_a1 _ _)
    · have h9 := byt_new (w.alloc (.cells #[] 5))
      have e9 : (w.alloc (.cells #[] 5)).heap.size = w.heap.size + 1 := by simp
      rw [e9] at h9
      exact own_mono10 h9 (Nat.le_succ _)
    · intro j h1 h2
      cases h1
      have h3 := Option.some.inj h2
      simp at h3
  case round =>
    rename World => wr
    obtain ⟨k, v, u, rfl, rfl, hk, rfl, hbw, hv, hu, hap⟩ := hrel
    by_cases hlt : k < s.size
    · have hlt2 : k < t.size := by omega
      have hk0 : (0 : Int) ≤ (k : Int) := Int.natCast_nonneg _
      have hk1 : (k : Int) < (s.size : Int) := by omega
      have hk2 : (k : Int) < (t.size : Int) := by omega
      have hwk : IntKind.i64.wrap ((k : Int) + 1) = ((k + 1 : Nat) : Int) := by rw [IntWalk.i64_in _ (by omega)]; omega
      have hP := Lib.hid (planL_next ps t s k)
      have hL := Lib.hid (letsL_next ps t s k)
      have hPk : (planL ps t s k).length = k := planL_len ps t s k
      have hLk : (letsL ps t s k).length = k := letsL_len ps t s k
      generalize planL ps t s k = L at *
      generalize letsL ps t s k = M at *
      rw [bAt_eq hlt2, bAt_eq hlt] at hP hL
      have hS := Lib.hid (h.below hbw)
      have hc := Lib.hid (hcall.out (t[k]'hlt2) (s[k]'hlt))
      replace hv := Lib.hid hv
      replace hu := Lib.hid hu
      replace hap := Lib.hid hap
      by_cases he : t[k]'hlt2 = s[k]'hlt
      · have y1 := yes12 he
        have y2 := yesn12 he
        have hP2 : Hid (planL ps t s (k + 1) = L ++ [46]) := Lib.hid (by rw [hP.out, plO, if_pos he])
        have hL2 : Hid (letsL ps t s (k + 1) = M ++ [32]) := Lib.hid (by rw [hL.out, plO, if_pos he])
        clear he hP hL
        go_wp2_with fail
        go_quiet (fail)
        obtain ⟨w1, hww1⟩ : ∃ w1, wr.drewN nq = w1 := ⟨_, rfl⟩
        have hb1 : Below w.heap.size w w1 := hww1 ▸ below_drewN hbw _
        rw [hww1]
        have hvq : Hid (OByt w1 w.heap.size v L) := Lib.hid (hww1 ▸ byt_draw hv.out)
        have huq : Hid (OByt w1 w.heap.size u M) := Lib.hid (hww1 ▸ byt_draw hu.out)
        clear hww1
        have hb1s := hb1.size
        go_wp2_with (at_builtin; refine wpList_append_own_at _ rfl _ _ 78 rfl w.heap.size 5 i0 _ 1 1 Try.underlying78 hi hz0 hz1 hz2 rfl (by decide) _ _ _ rfl (hvq.out.alloc _) ⟨w1.heap.size, 0, none⟩ 1 1 [.int .u8 46] rfl rfl (news8 _ _ _) (byt_one _) (by unfold maxLen; omega) (by omega) (by simp; omega) ?_)
        intro vx wx hox hgx hnx hax
        obtain ⟨hux, hapx⟩ := pair12 hvq.out huq.out hap.out hgx hax
        have hvx : OByt wx w.heap.size vx (L ++ [46]) := by
          show wx.ownsRow w.heap.size 5 1 vx (L ++ [46]).length ((L ++ [46]).map bytU)
          rw [byt_add _ (46 : UInt8) 46 rfl, List.length_append, hPk]
          exact hox
        have hbx : Below w.heap.size w wx := hb1.grown (grown_trans (grown_below (below_a1 w1 _) _) hgx) hb1.size (fun j hj => owns_ge8 hvq.out hj)
        replace hux := Lib.hid hux
        replace hapx := Lib.hid hapx
        replace hvx := Lib.hid hvx
        clear hox hgx hnx hax
        have hbs := hbx.size
        go_wp2_with (at_builtin; refine wpList_append_own_at _ rfl _ _ 78 rfl w.heap.size 5 i0 _ 1 1 Try.underlying78 hi hz0 hz1 hz2 rfl (by decide) _ _ _ rfl (hux.out.alloc _) ⟨wx.heap.size, 0, none⟩ 1 1 [.int .u8 32] rfl rfl (news8 _ _ _) (byt_one _) (by unfold maxLen; omega) (by omega) (by simp; omega) ?_)
        intro uy wy hoy hgy hny hay
        obtain ⟨hvy, hapy⟩ := pair12 hux.out hvx.out hapx.out.symm hgy hay
        have huy : OByt wy w.heap.size uy (M ++ [32]) := by
          show wy.ownsRow w.heap.size 5 1 uy (M ++ [32]).length ((M ++ [32]).map bytU)
          rw [byt_add _ (32 : UInt8) 32 rfl, List.length_append, hLk]
          exact hoy
        have hby : Below w.heap.size w wy := hbx.grown (grown_trans (grown_below (below_a1 wx _) _) hgy) hbx.size (fun j hj => owns_ge8 hux.out hj)
        replace huy := Lib.hid huy
        replace hvy := Lib.hid hvy
        replace hapy := Lib.hid hapy
        clear hoy hgy hny hay
        go_wp2
        go_roundw
        case rel => exact ⟨k + 1, _, _, rfl, rfl, by omega, by go_num, hby, by rw [hP2.out]; exact hvy.out, by rw [hL2.out]; exact huy.out, hapy.out.symm⟩
        case measure => simp [intOf]; omega
      · have y1 := no12 he
        have y2 := non12 he
        obtain ⟨q, hq⟩ : ∃ q, topV ps (t[k]'hlt2) (s[k]'hlt) = q := ⟨_, rfl⟩
        rw [hq] at hc
        by_cases hz : q.toNat = 0
        · have z1 : ((q.toNat : Int) == 0) = true := beq_iff_eq.2 (by omega)
          have z2 : ((q.toNat : Int) != 0) = false := by rw [bne, z1]; rfl
          have z3 : (q.toNat == 0) = true := beq_iff_eq.2 hz
          have hP2 : Hid (planL ps t s (k + 1) = L ++ [35]) := Lib.hid (by rw [hP.out, plO, if_neg he, hq, if_pos hz])
          have hL2 : Hid (letsL ps t s (k + 1) = M ++ [s[k]'hlt]) := Lib.hid (by rw [hL.out, plO, if_neg he, hq, if_pos hz])
          clear he hz hP hL hq
          go_wp2_with fail
          go_quiet (fail)
          obtain ⟨w1, hww1⟩ : ∃ w1, wr.drewN nq = w1 := ⟨_, rfl⟩
          have hb1 : Below w.heap.size w w1 := hww1 ▸ below_drewN hbw _
          rw [hww1]
          have hS1 : Hid (Overs w1 A n ps) := Lib.hid (hww1 ▸ hS.out.drewN _)
          have hv1 : Hid (OByt w1 w.heap.size v L) := Lib.hid (hww1 ▸ byt_draw hv.out)
          have hu1 : Hid (OByt w1 w.heap.size u M) := Lib.hid (hww1 ▸ byt_draw hu.out)
          clear hww1
          go_wp2_with fail
          go_quiet ((go_at_call 89; refine quiet_l (hc.out _ ?_); first | exact hS1.out | exact hS1.out.drewN _))
          obtain ⟨w2, hww2⟩ : ∃ w2, w1.drewN nq = w2 := ⟨_, rfl⟩
          have hb2 : Below w.heap.size w w2 := hww2 ▸ below_drewN hb1 _
          rw [hww2]
          have hvq : Hid (OByt w2 w.heap.size v L) := Lib.hid (hww2 ▸ byt_draw hv1.out)
          have huq : Hid (OByt w2 w.heap.size u M) := Lib.hid (hww2 ▸ byt_draw hu1.out)
          clear hww2
          have hb2s := hb2.size
          go_wp2_with (at_builtin; refine wpList_append_own_at _ rfl _ _ 78 rfl w.heap.size 5 i0 _ 1 1 Try.underlying78 hi hz0 hz1 hz2 rfl (by decide) _ _ _ rfl (hvq.out.alloc _) ⟨w2.heap.size, 0, none⟩ 1 1 [.int .u8 35] rfl rfl (news8 _ _ _) (byt_one _) (by unfold maxLen; omega) (by omega) (by simp; omega) ?_)
          intro vx wx hox hgx hnx hax
          obtain ⟨hux, hapx⟩ := pair12 hvq.out huq.out hap.out hgx hax
          have hvx : OByt wx w.heap.size vx (L ++ [35]) := by
            show wx.ownsRow w.heap.size 5 1 vx (L ++ [35]).length ((L ++ [35]).map bytU)
            rw [byt_add _ (35 : UInt8) 35 rfl, List.length_append, hPk]
            exact hox
          have hbx : Below w.heap.size w wx := hb2.grown (grown_trans (grown_below (below_a1 w2 _) _) hgx) hb2.size (fun j hj => owns_ge8 hvq.out hj)
          replace hux := Lib.hid hux
          replace hapx := Lib.hid hapx
          replace hvx := Lib.hid hvx
          clear hox hgx hnx hax
          have hbs := hbx.size
          go_wp2_with (at_builtin; refine wpList_append_own_at _ rfl _ _ 78 rfl w.heap.size 5 i0 _ 1 1 Try.underlying78 hi hz0 hz1 hz2 rfl (by decide) _ _ _ rfl (hux.out.alloc _) ⟨wx.heap.size, 0, none⟩ 1 1 [.int .u8 ((s[k]'hlt).toNat : Int)] rfl rfl (news8 _ _ _) (byt_one _) (by unfold maxLen; omega) (by omega) (by simp; omega) ?_)
          intro uy wy hoy hgy hny hay
          obtain ⟨hvy, hapy⟩ := pair12 hux.out hvx.out hapx.out.symm hgy hay
          have huy : OByt wy w.heap.size uy (M ++ [(s[k]'hlt)]) := by
            show wy.ownsRow w.heap.size 5 1 uy (M ++ [(s[k]'hlt)]).length ((M ++ [(s[k]'hlt)]).map bytU)
            rw [byt_add _ ((s[k]'hlt) : UInt8) ((s[k]'hlt).toNat : Int) rfl, List.length_append, hLk]
            exact hoy
          have hby : Below w.heap.size w wy := hbx.grown (grown_trans (grown_below (below_a1 wx _) _) hgy) hbx.size (fun j hj => owns_ge8 hux.out hj)
          replace huy := Lib.hid huy
          replace hvy := Lib.hid hvy
          replace hapy := Lib.hid hapy
          clear hoy hgy hny hay
          go_wp2
          go_roundw
          case rel => exact ⟨k + 1, _, _, rfl, rfl, by omega, by go_num, hby, by rw [hP2.out]; exact hvy.out, by rw [hL2.out]; exact huy.out, hapy.out.symm⟩
          case measure => simp [intOf]; omega
        · have z1 : ((q.toNat : Int) == 0) = false := beq_eq_false_iff_ne.2 (by omega)
          have z2 : ((q.toNat : Int) != 0) = true := by rw [bne, z1]; rfl
          have z3 : (q.toNat == 0) = false := beq_eq_false_iff_ne.2 hz
          have hP2 : Hid (planL ps t s (k + 1) = L ++ [43]) := Lib.hid (by rw [hP.out, plO, if_neg he, hq, if_neg hz])
          have hL2 : Hid (letsL ps t s (k + 1) = M ++ [q]) := Lib.hid (by rw [hL.out, plO, if_neg he, hq, if_neg hz])
          clear he hz hP hL hq
          go_wp2_with fail
          go_quiet (fail)
          obtain ⟨w1, hww1⟩ : ∃ w1, wr.drewN nq = w1 := ⟨_, rfl⟩
          have hb1 : Below w.heap.size w w1 := hww1 ▸ below_drewN hbw _
          rw [hww1]
          have hS1 : Hid (Overs w1 A n ps) := Lib.hid (hww1 ▸ hS.out.drewN _)
          have hv1 : Hid (OByt w1 w.heap.size v L) := Lib.hid (hww1 ▸ byt_draw hv.out)
          have hu1 : Hid (OByt w1 w.heap.size u M) := Lib.hid (hww1 ▸ byt_draw hu.out)
          clear hww1
          go_wp2_with fail
          go_quiet ((go_at_call 89; refine quiet_l (hc.out _ ?_); first | exact hS1.out | exact hS1.out.drewN _))
          obtain ⟨w2, hww2⟩ : ∃ w2, w1.drewN nq = w2 := ⟨_, rfl⟩
          have hb2 : Below w.heap.size w w2 := hww2 ▸ below_drewN hb1 _
          rw [hww2]
          have hvq : Hid (OByt w2 w.heap.size v L) := Lib.hid (hww2 ▸ byt_draw hv1.out)
          have huq : Hid (OByt w2 w.heap.size u M) := Lib.hid (hww2 ▸ byt_draw hu1.out)
          clear hww2
          have hb2s := hb2.size
          go_wp2_with (at_builtin; refine wpList_append_own_at _ rfl _ _ 78 rfl w.heap.size 5 i0 _ 1 1 Try.underlying78 hi hz0 hz1 hz2 rfl (by decide) _ _ _ rfl (hvq.out.alloc _) ⟨w2.heap.size, 0, none⟩ 1 1 [.int .u8 43] rfl rfl (news8 _ _ _) (byt_one _) (by unfold maxLen; omega) (by omega) (by simp; omega) ?_)
          intro vx wx hox hgx hnx hax
          obtain ⟨hux, hapx⟩ := pair12 hvq.out huq.out hap.out hgx hax
          have hvx : OByt wx w.heap.size vx (L ++ [43]) := by
            show wx.ownsRow w.heap.size 5 1 vx (L ++ [43]).length ((L ++ [43]).map bytU)
            rw [byt_add _ (43 : UInt8) 43 rfl, List.length_append, hPk]
            exact hox
          have hbx : Below w.heap.size w wx := hb2.grown (grown_trans (grown_below (below_a1 w2 _) _) hgx) hb2.size (fun j hj => owns_ge8 hvq.out hj)
          replace hux := Lib.hid hux
          replace hapx := Lib.hid hapx
          replace hvx := Lib.hid hvx
          clear hox hgx hnx hax
          have hbs := hbx.size
          go_wp2_with (at_builtin; refine wpList_append_own_at _ rfl _ _ 78 rfl w.heap.size 5 i0 _ 1 1 Try.underlying78 hi hz0 hz1 hz2 rfl (by decide) _ _ _ rfl (hux.out.alloc _) ⟨wx.heap.size, 0, none⟩ 1 1 [.int .u8 (q.toNat : Int)] rfl rfl (news8 _ _ _) (byt_one _) (by unfold maxLen; omega) (by omega) (by simp; omega) ?_)
          intro uy wy hoy hgy hny hay
          obtain ⟨hvy, hapy⟩ := pair12 hux.out hvx.out hapx.out.symm hgy hay
          have huy : OByt wy w.heap.size uy (M ++ [q]) := by
            show wy.ownsRow w.heap.size 5 1 uy (M ++ [q]).length ((M ++ [q]).map bytU)
            rw [byt_add _ (q : UInt8) (q.toNat : Int) rfl, List.length_append, hLk]
            exact hoy
          have hby : Below w.heap.size w wy := hbx.grown (grown_trans (grown_below (below_a1 wx _) _) hgy) hbx.size (fun j hj => owns_ge8 hux.out hj)
          replace huy := Lib.hid huy
          replace hvy := Lib.hid hvy
          replace hapy := Lib.hid hapy
          clear hoy hgy hny hay
          go_wp2
          go_roundw
          case rel => exact ⟨k + 1, _, _, rfl, rfl, by omega, by go_num, hby, by rw [hP2.out]; exact hvy.out, by rw [hL2.out]; exact huy.out, hapy.out.symm⟩
          case measure => simp [intOf]; omega
    · have hks : k = s.size := by omega
      subst hks
      have hcv := byt_conv hv
      have hcu := byt_conv hu
      have hcv2 := fun j => byt_conv (byt_draw (j := j) hv)
      have hcu2 := fun j => byt_conv (byt_draw (j := j) hu)
      obtain ⟨A1, c1, rfl⟩ := byt_form hv
      obtain ⟨A2, c2, rfl⟩ := byt_form hu
      clear hv hu hap
      go_wp2_with fail
      go_quiet (fail)
      go_wp2
      go_ret2
      exact ⟨rfl, below_drewN hbw _⟩
end Go.Proofs.Ytomnnhmhmehdjaa
