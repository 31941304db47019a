/- Several texts, one behind the other. -/
import Derived.Test.YtomnnhmhmehdjaaOv3
import Derived.Test.YtomnnhmhmehdjaaCo7
import Derived.Test.YtomnnhmhmehdjaaApM
import Derived.Lib.UnsafeStr
/- Corrections: what makes a byte into another one, by the program. -/
namespace Go.Proofs.Ytomnnhmhmehdjaa
open Go.RowKit Go.ChangeShapes Go.WideShapes Go.Deep Go.ChangeMaps Go.MapKept
set_option linter.unusedVariables false
set_option linter.unusedSimpArgs false

set_option maxRecDepth 100000 in
set_option maxHeartbeats 2400000 in
theorem corr12 (r1 r2 : Nat) (ps : List OverD) (hp : ∀ x ∈ ps, (bAt x.top 0).toNat ≠ 0) (t s : UInt8) (ht : s.toNat ≠ 0) (w : World) (hS : MapIs bpV w r2 (topE ps)) :
    Calls Try.prog 62 #[.agg #[.map (some r1), .map (some r2)], .int .u8 (t.toNat : Int), .int .u8 (s.toNat : Int)] w fun e w' => e = .returned (.tuple #[.int .u8 ((plO ps t s).1.toNat : Int), .int .u8 ((plO ps t s).2.toNat : Int)]) ∧ Below w.heap.size w w' := by
  generalize hr : plO ps t s = r
  replace hr := Lib.hid hr.symm
  by_cases h1 : t = s
  · have y1 := yes12 h1
    have y2 := yesn12 h1
    have hres : Hid (r = (46, 32)) := Lib.hid (by rw [hr.out, plO, if_pos h1])
    clear hr h1
    go_enter Try.func62, Try.ntmps62
    go_wp2
    go_ret2
    exact ⟨by rw [hres.out]; rfl, below_a1 _ _⟩
  · have y1 := no12 h1
    have y2 := non12 h1
    by_cases h2 : t.toNat = 32
    · obtain ⟨z1, z2⟩ := u8y h2
      simp only [show ((32 : Nat) : Int) = 32 from rfl] at z1
      have hres : Hid (r = (43, s)) := Lib.hid (by rw [hr.out, plO, if_neg h1, topV, if_pos h2, if_neg ht])
      clear hr h1 h2
      go_enter Try.func62, Try.ntmps62
      go_wp2
      go_ret2
      exact ⟨by rw [hres.out]; rfl, below_a1 _ _⟩
    · obtain ⟨z1, z2⟩ := u8n h2
      simp only [show ((32 : Nat) : Int) = 32 from rfl] at z1
      have hsv := topE_get ps t s hp
      by_cases h0 : (topL 0 ps t s).toNat = 0
      · rw [if_pos h0] at hsv
        have hres : Hid (r = (35, s)) := Lib.hid (by rw [hr.out, plO, if_neg h1, topV, if_neg h2, if_pos h0])
        have hv1 := Lib.hid (see_no hsv).1
        have hb1 := Lib.hid (see_no hsv).2
        have hS3 := hS.below (B := w.heap.size) (below_a1 w (.cells #[.map (some r1), .map (some r2)] 74)) hS.lt
        clear hr h1 h2 hsv h0
        go_enter Try.func62, Try.ntmps62
        go_wp2_with (at_lookup; refine wpList_look_is rfl _ _ _ 124 5 rfl chgKey Try.underlying72 (zero_u8 _) rfl hS3 (t, s) rfl hv1.out hb1.out ?_)
        go_ret2
        exact ⟨by rw [hres.out]; rfl, below_a1 _ _⟩
      · rw [if_neg h0] at hsv
        have hres : Hid (r = (43, topL 0 ps t s)) := Lib.hid (by rw [hr.out, plO, if_neg h1, topV, if_neg h2, if_neg h0])
        have hv1 := Lib.hid (see_yes hsv).1
        have hb1 := Lib.hid (see_yes hsv).2
        have hS3 := hS.below (B := w.heap.size) (below_a1 w (.cells #[.map (some r1), .map (some r2)] 74)) hS.lt
        generalize topL 0 ps t s = z at *
        clear hr h1 h2 hsv h0
        go_enter Try.func62, Try.ntmps62
        go_wp2_with (at_lookup; refine wpList_look_is rfl _ _ _ 124 5 rfl chgKey Try.underlying72 (zero_u8 _) rfl hS3 (t, s) rfl hv1.out hb1.out ?_)
        go_ret2
        exact ⟨by rw [hres.out]; rfl, below_a1 _ _⟩
end Go.Proofs.Ytomnnhmhmehdjaa

/- Two strings.Builders side by side: a byte is written to one of them, and one's text is taken. -/
namespace Go.Proofs.Ytomnnhmhmehdjaa
open Go.RowKit Go.ChangeShapes Go.WideShapes Go.Deep
set_option linter.unusedVariables false
set_option linter.unusedSimpArgs false

/-- A builder, and the row that it holds. -/
def BoxB (B b : Nat) (v : Value) (w : World) : Prop := B ≤ b ∧ ∃ p, (p = .pointer none ∨ p = .pointer (some ⟨b, 0, none⟩)) ∧ w.heap[b]? = some (.cells #[p, v] 88 (0, 0))
/-- Two builders, and what each holds. -/
def TwoB (B b1 b2 : Nat) (L M : List UInt8) (w : World) : Prop :=
  b1 ≠ b2 ∧ ∃ v u, BoxB B b1 v w ∧ BoxB B b2 u w ∧ OByt w B v L ∧ OByt w B u M ∧ Apart v u ∧ (L = [] → v = .slice none 0 0) ∧ (M = [] → u = .slice none 0 0)
theorem TwoB.symm {B b1 b2 : Nat} {L M : List UInt8} {w : World} (h : TwoB B b1 b2 L M w) : TwoB B b2 b1 M L w := by
  obtain ⟨hne, v, u, h1, h2, h3, h4, h5, h6, h7⟩ := h
  exact ⟨hne.symm, u, v, h2, h1, h4, h3, h5.symm, h7, h6⟩
theorem BoxB.lt {B b : Nat} {v : Value} {w : World} (h : BoxB B b v w) : b < w.heap.size := by
  obtain ⟨_, p, _, hb⟩ := h
  exact (Array.getElem?_eq_some_iff.1 hb).1
theorem box_neB {w : World} {B b : Nat} {v u : Value} {L : List UInt8} (h : OByt w B v L) (hb : BoxB B b u w) : v.ownBlock ≠ some b := by
  obtain ⟨_, p, _, hb⟩ := hb
  exact Lib.ownBlock_neF (World.ownsRowF_of h) hb (by decide)
theorem BoxB.keep {w w' : World} {B b : Nat} {v : Value} (h : BoxB B b v w) (hk : w'.heap[b]? = w.heap[b]?) : BoxB B b v w' := by
  obtain ⟨h1, p, h2, h3⟩ := h
  exact ⟨h1, p, h2, hk.trans h3⟩
theorem TwoB.below {B b1 b2 : Nat} {L M : List UInt8} {w w' : World} (h : TwoB B b1 b2 L M w) (hb : Below w.heap.size w w') : TwoB B b1 b2 L M w' := by
  obtain ⟨hne, v, u, h1, h2, h3, h4, h5, h6, h7⟩ := h
  exact ⟨hne, v, u, h1.keep (hb.block _ h1.lt), h2.keep (hb.block _ h2.lt), own_keep10 h3 hb, own_keep10 h4 hb, h5, h6, h7⟩
theorem grown_setB (w : World) (b o : Nat) (x : Value) : w.grownBy (w.setCell ⟨b, o, none⟩ x) (some b) :=
  ⟨rfl, rfl, rfl, by simp [World.setCell], fun k _ hk => Below.heap_setCell _ _ _ _ (fun e => hk (by simp [e]))⟩
theorem set_keepB {w : World} {B b o : Nat} {x v : Value} {L : List UInt8} (h : OByt w B v L) (hne : v.ownBlock ≠ some b) : OByt (w.setCell ⟨b, o, none⟩ x) B v L :=
  World.ownsRow.kept h (grown_setB w b o x) (Or.inr hne)
theorem grown_freeze (w : World) (g n : Nat) : w.grownBy (w.freeze ⟨g, 0, none⟩ n) (some g) := by
  unfold World.freeze
  split
  · exact ⟨rfl, rfl, rfl, Nat.le_refl _, fun _ _ _ => rfl⟩
  · exact ⟨rfl, rfl, rfl, by simp, fun k _ hk => by
      simp only [Array.getElem?_modify]
      rw [if_neg (fun e => hk (by rw [e]))]⟩
/-- A builder says whether it was copied. -/
theorem check_two (B b1 b2 : Nat) (v u : Value) (L M : List UInt8) (w : World) (hne : b1 ≠ b2) (h1 : BoxB B b1 v w) (h2 : BoxB B b2 u w) (h3 : OByt w B v L) (h4 : OByt w B u M) :
    Calls Try.prog 90 #[.pointer (some ⟨b1, 0, none⟩)] w fun e w1 => e = .returned (.tuple #[]) ∧ w1.heap[b1]? = some (.cells #[.pointer (some ⟨b1, 0, none⟩), v] 88 (0, 0)) ∧ BoxB B b2 u w1 ∧ OByt w1 B v L ∧ OByt w1 B u M ∧ Below B w w1 := by
  have n1 := box_neB h3 h1
  have n2 := box_neB h4 h1
  obtain ⟨hB, p, rfl | rfl, hb⟩ := h1
  · refine (check_fresh b1 w (by rw [Lib.cell_of_heap hb]; rfl) (by simp [World.shape?, hb]) (Lib.frozen_of_heap hb 0)).mono ?_
    rintro e w' ⟨rfl, rfl⟩
    exact ⟨rfl, by simp [World.setCell, Array.getElem?_modify, hb], h2.keep (Below.heap_setCell _ _ _ _ (fun e => hne e.symm)), set_keepB h3 n1, set_keepB h4 n2, (Below.refl B w).setCell (p := ⟨b1, 0, none⟩) hB _⟩
  · refine (check_used b1 w (by rw [Lib.cell_of_heap hb]; rfl)).mono ?_
    rintro e w' ⟨rfl, rfl⟩
    exact ⟨rfl, hb, h2, h3, h4, Below.refl B _⟩
set_option maxHeartbeats 2000000 in
set_option maxRecDepth 100000 in
/-- A byte is written to the one. -/
theorem write_two (B b1 b2 : Nat) (c : UInt8) (L M : List UInt8) (w : World) (h : TwoB B b1 b2 L M w) (hlen : L.length + 1 ≤ 140737488355328) (hBw : B ≤ w.heap.size) :
    Calls Try.prog 63 #[.pointer (some ⟨b1, 0, none⟩), .int .u8 (c.toNat : Int)] w fun e w' => e = .returned .nilIface ∧ (TwoB B b1 b2 (L ++ [c]) M w' ∧ Below B w w') := by
  obtain ⟨i0, hi, hz0, hz1, hz2⟩ := info_parts Try.infoU8
  obtain ⟨hne, v, u, h1, h2, h3, h4, hap, z1, z2⟩ := h
  have hB := h1.1
  have hck := Lib.hid (check_two B b1 b2 v u L M w hne h1 h2 h3 h4)
  clear z1 h1 h2 h3 h4
  replace z2 := Lib.hid z2
  replace hne := Lib.hid hne
  go_enter Try.func63, Try.ntmps63
  go_wp2_with fail
  refine hck.out.mono ?_
  rintro e w1 ⟨rfl, hbk, hx2, ho1, ho2, hb1⟩
  have c0 : w1.cell? ⟨b1, 0, none⟩ = some (.pointer (some ⟨b1, 0, none⟩)) := by rw [Lib.cell_of_heap hbk]; rfl
  have c1 : w1.cell? ⟨b1, 1, none⟩ = some v := by rw [Lib.cell_of_heap hbk]; rfl
  have hlt : b1 < w1.heap.size := (Array.getElem?_eq_some_iff.1 hbk).1
  have hlt2 := hx2.lt
  have n1 : v.ownBlock ≠ some b1 := Lib.ownBlock_neF (World.ownsRowF_of ho1) hbk (by decide)
  have n2 : u.ownBlock ≠ some b1 := Lib.ownBlock_neF (World.ownsRowF_of ho2) hbk (by decide)
  have n3 : v.ownBlock ≠ some b2 := box_neB ho1 hx2
  have hwz := hb1.size
  go_wp2_with (at_builtin; refine wpList_append_own_at _ rfl _ _ 78 rfl B 5 i0 (.int .u8 0) 1 1 Try.underlying78 hi hz0 hz1 hz2 rfl (by decide) _ _ _ rfl (ho1.alloc _) ⟨w1.heap.size, 0, none⟩ 1 1 [.int .u8 (c.toNat : Int)] rfl rfl (news8 _ _ _) (byt_one _) (by unfold maxLen; omega) (by omega) (by simp; omega) ?_)
  intro v' w2 hown' hgrow _ hat
  obtain ⟨hu2, hap2⟩ := pair12 ho1 ho2 hap hgrow hat
  have hown2 : OByt w2 B v' (L ++ [c]) := by
    show w2.ownsRow B 5 1 v' (L ++ [c]).length ((L ++ [c]).map bytU)
    rw [byt_add _ c _ rfl, List.length_append]
    exact hown'
  have hb2 : w2.heap[b1]? = some (.cells #[.pointer (some ⟨b1, 0, none⟩), v] 88 (0, 0)) := by
    rw [hgrow.block b1 (by simp; omega) (fun e => n1 e.symm), Lib.alloc_old w1 _ b1 hlt]
    exact hbk
  have hx3 : BoxB B b2 u w2 := hx2.keep (by rw [hgrow.block b2 (by simp; omega) (fun e => n3 e.symm), Lib.alloc_old w1 _ b2 hlt2])
  have d0 : w2.cell? ⟨b1, 0, none⟩ = some (.pointer (some ⟨b1, 0, none⟩)) := by rw [Lib.cell_of_heap hb2]; rfl
  have d1 : w2.cell? ⟨b1, 1, none⟩ = some v := by rw [Lib.cell_of_heap hb2]; rfl
  have f1 : w2.frozen? ⟨b1, 1, none⟩ = false := Lib.frozen_of_heap hb2 1
  have n4 : v'.ownBlock ≠ some b1 := Lib.ownBlock_neF (World.ownsRowF_of hown2) hb2 (by decide)
  have hfin := Lib.hid (((hb1.alloc (by have := hb1.size; omega) _).grown hgrow (by have := hb1.size; simp; omega) (fun k hk => owns_ge8 ho1 hk)).setCell (p := ⟨b1, 1, none⟩) hB v')
  have htwo : Hid (TwoB B b1 b2 (L ++ [c]) M (w2.setCell ⟨b1, 1, none⟩ v')) := Lib.hid ⟨hne.out, v', u, ⟨hB, _, .inr rfl, by simp [World.setCell, Array.getElem?_modify, hb2]⟩, hx3.keep (Below.heap_setCell _ _ _ _ (fun e => hne.out e.symm)), set_keepB hown2 n4, set_keepB hu2 n2, hap2, fun e => by simp at e, z2.out⟩
  obtain ⟨ao, n', cap, rfl⟩ : ∃ ao n' cap, v' = .slice ao n' cap := by
    rcases hown'.2 with ⟨hv, _⟩ | ⟨g, cap, cur, hv, _⟩
    · exact ⟨_, _, _, hv⟩
    · exact ⟨_, _, _, hv⟩
  clear hown' hown2 hu2 hap2 hap hat hgrow ho1 ho2
  go_wp2
  go_ret
  exact ⟨rfl, htwo.out, hfin.out⟩
theorem bytes_eqU (M : List UInt8) : M.map bytU = Lib.byteCells M := rfl
theorem is_builder2 {B b : Nat} {u : Value} {M : List UInt8} {w : World} (h2 : BoxB B b u w) (h4 : OByt w B u M) : Lib.IsBuilderF 88 5 B b (Lib.byteCells M) w := by
  have n := box_neB h4 h2
  obtain ⟨hB, p, hp, hb⟩ := h2
  have hO : w.ownsRowF B 5 1 u (Lib.byteCells M).length (Lib.byteCells M) := by
    rw [Lib.byteCells_length, ← bytes_eqU]
    exact World.ownsRowF_of h4
  rcases hp with rfl | rfl
  · exact .inl ⟨hB, u, hb, hO, n⟩
  · exact .inr ⟨hB, u, hb, hO, n⟩
set_option maxHeartbeats 2000000 in
set_option maxRecDepth 100000 in
/-- The one's text is taken; the other is as it was. -/
theorem str_two (B b1 b2 : Nat) (L M : List UInt8) (w : World) (h : TwoB B b1 b2 L M w) (hBw : B ≤ w.heap.size) :
    Calls Try.prog 64 #[.pointer (some ⟨b1, 0, none⟩)] w fun e w' => e = .returned (.string ⟨L.toArray⟩) ∧ (Lib.IsBuilderF 88 5 B b2 (Lib.byteCells M) w' ∧ Below B w w') := by
  obtain ⟨hne, v, u, h1, h2, h3, h4, hap, z1, z2⟩ := h
  obtain ⟨hB, p, hp, hbk⟩ := h1
  by_cases hL : L = []
  · obtain rfl := z1 hL
    subst hL
    have c1 : w.drew.cell? ⟨b1, 1, none⟩ = some (.slice none 0 0) := by
      have : w.drew.heap[b1]? = some (.cells #[p, .slice none 0 0] 88 (0, 0)) := hbk
      rw [Lib.cell_of_heap this]; rfl
    have hUS : ∀ W q, (Builtin.unsafeString_ #[125, 3] 9 #[.pointer q, .int .i64 0]).run Try.prog W = .ok (.string .empty) W := fun W q => Lib.run_unsafeString_none W _ _ _ _
    have hSD : (Builtin.unsafeSliceData_ #[78] 125 #[.slice none 0 0]).run Try.prog w.drew = .ok (.pointer none) w.drew := rfl
    have hfin := Lib.hid (is_builder2 h2 h4)
    clear hbk h2 h3 h4 hap z1 z2 hp hne
    have mixed : Try.prog.follows Departure.mixedOrders = true := by kernel_rfl
    go_enter Try.func64, Try.ntmps64
    go_wp2
    go_region_o
    all_goals (go_wp2; go_ret; exact ⟨rfl, hfin.out, Below.drew (Below.refl B w)⟩)
  · obtain ⟨g, cap, cur, rfl, hbg, hg, hnc, hcm, hcs, htake⟩ : ∃ g cap cur, v = .slice (some ⟨g, 0, none⟩) L.length cap ∧ B ≤ g ∧ w.heap[g]? = some (.cells cur 5) ∧ L.length ≤ cap ∧ cap ≤ maxLen ∧ cur.size = cap * 1 ∧ cur.toList.take (L.length * 1) = L.map bytU := by
      rcases h3.2 with ⟨_, hz⟩ | ⟨g, cap, cur, hv, q1, q2, q3, q4, q5, q6⟩
      · exact absurd (List.eq_nil_of_length_eq_zero hz) hL
      · exact ⟨g, cap, cur, hv, q1, q2, q3, q4, q5, q6⟩
    have hcell : ∀ j x, L[j]? = some x → w.drew.cell? ((⟨g, 0, none⟩ : Addr).add j) = some (.int .u8 x.toNat) := fun j x hx => h3.cells (g := g) rfl j (.int .u8 x.toNat) (by simp [bytU, hx])
    have hL0 : L.length ≠ 0 := by simpa using hL
    have c1 : w.drew.cell? ⟨b1, 1, none⟩ = some (.slice (some ⟨g, 0, none⟩) L.length cap) := by
      have : w.drew.heap[b1]? = some (.cells #[p, .slice (some ⟨g, 0, none⟩) L.length cap] 88 (0, 0)) := hbk
      rw [Lib.cell_of_heap this]; rfl
    have hSD : (Builtin.unsafeSliceData_ #[78] 125 #[.slice (some ⟨g, 0, none⟩) L.length cap]).run Try.prog w.drew = .ok (.pointer (some ⟨g, 0, none⟩)) w.drew :=
      Lib.run_unsafeSliceData_row _ _ _ _ _ _ (by omega)
    have hUS : (Builtin.unsafeString_ #[125, 3] 9 #[.pointer (some ⟨g, 0, none⟩), .int .i64 L.length]).run Try.prog w.drew = .ok (.string ⟨L.toArray⟩) (w.drew.freeze ⟨g, 0, none⟩ L.length) :=
      Lib.run_unsafeString_row w.drew 125 3 9 5 Try.underlying125 Try.Builder_Extra_169.cellsByte g cur.size (by have hg' : w.drew.heap[g]? = some (.cells cur 5) := hg; simp [World.shape?, hg']) L hL (by omega) (by unfold maxLen at hcm; omega) hcell
    have nu : u.ownBlock ≠ some g := hap g rfl
    have hgr := grown_freeze w.drew g L.length
    have hbg2 : b2 ≠ g := by
      intro e
      have := box_neB h3 h2
      exact this (by rw [e]; rfl)
    have hfin := Lib.hid (is_builder2 (w := w.drew.freeze ⟨g, 0, none⟩ L.length) (h2.keep (hgr.block b2 h2.lt (by simpa using hbg2))) (World.ownsRow.kept (show OByt w.drew B u M from h4) hgr (Or.inr nu)))
    clear hbk h2 h3 h4 hap z1 z2 hp hne hg htake hcell hgr nu hbg2
    have mixed : Try.prog.follows Departure.mixedOrders = true := by kernel_rfl
    go_enter Try.func64, Try.ntmps64
    go_wp2
    go_region_o
    all_goals (go_wp2; go_ret; exact ⟨rfl, hfin.out, Lib.below_freeze (Below.drew (Below.refl B w)) (p := ⟨g, 0, none⟩) hbg _⟩)
end Go.Proofs.Ytomnnhmhmehdjaa

/- Corrections: CorrectionPlan of the program. -/
namespace Go.Proofs.Ytomnnhmhmehdjaa
open Go.RowKit Go.ChangeShapes Go.WideShapes Go.Deep Go.ChangeMaps Go.MapKept
set_option linter.unusedVariables false
set_option linter.unusedSimpArgs false

theorem ret_c3 {r : ByteArray × ByteArray × Int} {a b : ByteArray} {c : Int} (h : r = (a, b, c)) : Ending.returned (.tuple #[.string a, .string b, .int .i64 c]) = .returned (.tuple #[.string r.1, .string r.2.1, .int .i64 r.2.2]) := by rw [h]
theorem two_new (W : World) (B : Nat) (hB : W.heap.size = B) : TwoB B B (B + 1) [] [] ((W.alloc (.cells #[.pointer none, .slice none 0 0] 88)).alloc (.cells #[.pointer none, .slice none 0 0] 88)) := by
  subst hB
  refine ⟨by omega, .slice none 0 0, .slice none 0 0, ⟨Nat.le_refl _, .pointer none, .inl rfl, ?_⟩, ⟨Nat.le_succ _, .pointer none, .inl rfl, ?_⟩, owns_nil8 _ _ _, owns_nil8 _ _ _, (fun j h1 h2 => by cases h1), fun _ => rfl, fun _ => rfl⟩
  · rw [Lib.alloc_old _ _ _ (by simp)]
    exact heap_alloc_new W _
  · have h := heap_alloc_new (W.alloc (.cells #[.pointer none, .slice none 0 0] 88)) (.cells #[.pointer none, .slice none 0 0] 88)
    rw [show (W.alloc (.cells #[.pointer none, .slice none 0 0] 88)).heap.size = W.heap.size + 1 from by simp] at h
    exact h
set_option maxRecDepth 100000 in
set_option maxHeartbeats 6400000 in
theorem cp12_impl (A : Option Addr) (n c : Nat) (ps : List OverD) (t s : ByteArray) (w : World) (h : Overs w A n ps) (hn : n ≤ 1048576) (hg : ∀ x ∈ ps, x.good) (ht : t.size ≤ 1048576) (hs : s.size ≤ 1048576) :
    Calls Try.prog 23 #[.slice A n c, .string t, .string s] w fun e w' => e = .returned (.tuple #[.string (coP ps t s).1, .string (coP ps t s).2.1, .int .i64 (coP ps t s).2.2]) ∧ Below w.heap.size w w' := by
  generalize hr : coP ps t s = r
  replace hr := Lib.hid hr.symm
  obtain ⟨q, hq⟩ : ∃ q, codeC ps t s = q := ⟨_, rfl⟩
  have hrd := Lib.hid (readl12 A n c ps t s hq w h hn hg ht hs)
  by_cases h0 : q = 0
  · subst h0
    obtain ⟨hov, hbt, hbl, hz1, hz2⟩ := codeC_lines hq
    have hres : Hid (r = (⟨(planL ps t s t.size).toArray⟩, ⟨(letsL ps t s t.size).toArray⟩, 0)) := Lib.hid (by rw [hr.out, coP, if_pos hq, hz1])
    have hone := ovB_oneB hov
    have hpos := Lib.hid (fun x (hx : x ∈ ps) => letC_pos (oneB_parts (hone x hx)).2.1)
    replace hbl := Lib.hid hbl
    have ht60 : t.size ≤ 60 := by omega
    replace hz1 := Lib.hid hz1
    clear hr h hg hq hov hone hbt hs ht hz2
    go_enter Try.func23, Try.ntmps23
    go_wp2_with fail
    refine (hrd.out).mono ?_
    rintro e w1 ⟨hb1, ⟨h9, _⟩ | ⟨_, r1, r2, rfl, hM1, hM2⟩⟩
    · exact absurd rfl h9
    · have hzB : (w1.alloc (.cells #[.map (some r1), .map (some r2)] 74)).heap.size = w1.heap.size + 1 := by simp
      have hbw2 := Lib.hid (hb1.alloc hb1.size (.cells #[.map (some r1), .map (some r2)] 74))
      have hMs := Lib.hid (hM2.below (B := w1.heap.size) (below_a1 w1 (.cells #[.map (some r1), .map (some r2)] 74)) hM2.lt)
      have o0 := Lib.hid (cell_new (w := w1) (t := 74) (cs := #[.map (some r1), .map (some r2)]) (o := 0) rfl rfl)
      have o1 := Lib.hid (cell_new (w := w1) (t := 74) (cs := #[.map (some r1), .map (some r2)]) (o := 1) rfl rfl)
      have hst := Lib.hid (two_new (w1.alloc (.cells #[.map (some r1), .map (some r2)] 74)) (w1.heap.size + 1) hzB)
      have hsb := Lib.hid (show Below (w1.heap.size + 1) (w1.alloc (.cells #[.map (some r1), .map (some r2)] 74)) _ from hzB ▸ below_a2 (w1.alloc (.cells #[.map (some r1), .map (some r2)] 74)) (.cells #[.pointer none, .slice none 0 0] 88) (.cells #[.pointer none, .slice none 0 0] 88))
      replace hzB := Lib.hid hzB
      have hw1 := hb1.size
      clear hM1 hM2 hb1
      go_wp2
      go_loopw [13, 14, 15, 28] (fun _ _ _ i wr => ∃ k : Nat, k ≤ t.size ∧ i = .int .i64 (k : Int) ∧ TwoB (w1.heap.size + 1) (w1.heap.size + 1) (w1.heap.size + 1 + 1) (planL ps t s k) (letsL ps t s k) wr ∧ Below (w1.heap.size + 1) (w1.alloc (.cells #[.map (some r1), .map (some r2)] 74)) wr) (fun _ _ _ i _ => t.size - (intOf i).toNat)
      case atStart => exact ⟨0, by omega, rfl, hst.out, hsb.out⟩
      case round =>
        rename World => wr
        obtain ⟨k, hk, rfl, hT, hbw⟩ := hrel
        replace hT := Lib.hid hT
        have hbx : Below (w1.alloc (.cells #[.map (some r1), .map (some r2)] 74)).heap.size (w1.alloc (.cells #[.map (some r1), .map (some r2)] 74)) wr := by rw [hzB.out]; exact hbw
        have hwz : w1.heap.size + 1 ≤ wr.heap.size := by have := hbx.size; rw [hzB.out] at this; exact this
        by_cases hlt : k < t.size
        · have hlt2 : k < s.size := by have := hz1.out; omega
          have i0 : (0 : Int) ≤ (k : Int) := by omega
          have i1 : (k : Int) < (t.size : Int) := by omega
          have i2 : (k : Int) < (s.size : Int) := by omega
          have hwk : IntKind.i64.wrap ((k : Int) + 1) = ((k + 1 : Nat) : Int) := by rw [IntWalk.i64_in _ (by omega)]; omega
          have d0 := cell_step o0.out hbx
          have d1 := cell_step o1.out hbx
          have hMr := Lib.hid (hMs.out.below hbx hMs.out.lt)
          have hc := Lib.hid (fun W hW => corr12 r1 r2 ps hpos.out (t[k]'hlt) (s[k]'hlt2) (by have := bytesIn_at hbl.out hlt2; omega) W hW)
          have hP := Lib.hid (planL_next ps t s k)
          have hL := Lib.hid (letsL_next ps t s k)
          rw [bAt_eq hlt, bAt_eq hlt2] at hP hL
          obtain ⟨v, hv⟩ : ∃ v, plO ps (t[k]'hlt) (s[k]'hlt2) = v := ⟨_, rfl⟩
          rw [hv] at hc hP hL
          obtain ⟨v1, v2⟩ := v
          clear hv
          have hPk : (planL ps t s k).length = k := planL_len ps t s k
          have hLk : (letsL ps t s k).length = k := letsL_len ps t s k
          replace hPk := Lib.hid hPk
          replace hLk := Lib.hid hLk
          clear hbx
          go_wp2
          refine wp_region_held_drew (S := fun w' => Below wr.heap.size wr w' ∧ w'.cell? ⟨w1.heap.size, 0, none⟩ = some (.map (some r1)) ∧ w'.cell? ⟨w1.heap.size, 1, none⟩ = some (.map (some r2))) (by kernel_rfl) ?_ (fun hHeld => ?_)
          · exact ⟨(Below.refl _ wr).drew, cell_step d0 ((Below.refl _ wr).drew), cell_step d1 ((Below.refl _ wr).drew)⟩
          refine wpAnyH_take (i := 0) (v := ?vaU1_0) rfl (by kernel_rfl) (by kernel_rfl) (by kernel_rfl) (fun _ _ _ h => h) (Or.inl ⟨rfl, ?yaU1_0⟩) (by assumption) ?_
          case yaU1_0 => (intro w hSw; (try dsimp only at hSw); go_simp; first | done | with_reducible rfl)
          simp only [List.getElem_toArray, List.getElem_cons_succ, List.getElem_cons_zero, Act.put, List.setIfInBounds_toArray, List.set_cons_zero, List.set_cons_succ]
          refine wpAnyH_take (i := 1) (v := ?vaU1_1) rfl (by kernel_rfl) (by kernel_rfl) (by kernel_rfl) (fun _ _ _ h => h) (Or.inl ⟨rfl, ?yaU1_1⟩) (by assumption) ?_
          case yaU1_1 => (intro w hSw; (try dsimp only at hSw); go_simp; first | done | with_reducible rfl)
          simp only [List.getElem_toArray, List.getElem_cons_succ, List.getElem_cons_zero, Act.put, List.setIfInBounds_toArray, List.set_cons_zero, List.set_cons_succ]
          refine wpAnyH_take (i := 2) (v := ?vaU1_2) rfl (by kernel_rfl) (by kernel_rfl) (by kernel_rfl) (fun _ _ _ h => h) (Or.inl ⟨rfl, ?yaU1_2⟩) (by assumption) ?_
          case yaU1_2 => (intro w hSw; (try dsimp only at hSw); go_simp; first | done | with_reducible rfl)
          simp only [List.getElem_toArray, List.getElem_cons_succ, List.getElem_cons_zero, Act.put, List.setIfInBounds_toArray, List.set_cons_zero, List.set_cons_succ]
          refine wpAnyH_take (i := 3) (v := ?vaU1_3) rfl (by kernel_rfl) (by kernel_rfl) (by kernel_rfl) (fun _ _ _ h => h) (Or.inl ⟨rfl, ?yaU1_3⟩) (by assumption) ?_
          case yaU1_3 => (intro w hSw; (try dsimp only at hSw); go_simp; first | done | with_reducible rfl)
          simp only [List.getElem_toArray, List.getElem_cons_succ, List.getElem_cons_zero, Act.put, List.setIfInBounds_toArray, List.set_cons_zero, List.set_cons_succ]
          refine wpAnyH_take (i := 4) (v := ?vaU1_4) rfl (by kernel_rfl) (by kernel_rfl) (by kernel_rfl) (fun _ _ _ h => h) (Or.inl ⟨rfl, ?yaU1_4⟩) (by assumption) ?_
          case yaU1_4 => (intro w hSw; (try dsimp only at hSw); go_simp; first | done | with_reducible rfl)
          simp only [List.getElem_toArray, List.getElem_cons_succ, List.getElem_cons_zero, Act.put, List.setIfInBounds_toArray, List.set_cons_zero, List.set_cons_succ]
          refine wpAnyH_take (i := 5) (v := ?vaU1_5) rfl (by kernel_rfl) (by kernel_rfl) (by kernel_rfl) (fun _ _ _ h => h) (Or.inl ⟨rfl, ?yaU1_5⟩) (by assumption) ?_
          case yaU1_5 => (intro w hSw; (try dsimp only at hSw); go_simp; first | done | with_reducible rfl)
          simp only [List.getElem_toArray, List.getElem_cons_succ, List.getElem_cons_zero, Act.put, List.setIfInBounds_toArray, List.set_cons_zero, List.set_cons_succ]
          refine wpAnyH_take (i := 6) (v := ?vaU1_6) rfl (by kernel_rfl) (by kernel_rfl) (by kernel_rfl) (fun _ _ _ h => h) (Or.inl ⟨rfl, ?yaU1_6⟩) (by assumption) ?_
          case yaU1_6 => (intro w hSw; (try dsimp only at hSw); go_simp; first | done | with_reducible rfl)
          simp only [List.getElem_toArray, List.getElem_cons_succ, List.getElem_cons_zero, Act.put, List.setIfInBounds_toArray, List.set_cons_zero, List.set_cons_succ]
          refine wpAnyH_ready (rs := [7]) (by kernel_rfl) (by simp) ?_
          refine AllReadyH.cons rfl (fun K hK => ?_) AllReadyH.nil
          go_simp
          refine (hc.out _ (hMr.out.below (Below.refl _ wr).drew hMr.out.lt)).mono ?_
          rintro e w5 ⟨rfl, hb5⟩
          go_wp2_with fail
          refine hK.out _ _ ?_ (fun hHeld => ?_)
          · exact ⟨hHeld.1.trans (hb5.mono hHeld.1.size), cell_step hHeld.2.1 hb5, cell_step hHeld.2.2 hb5⟩
          clear hK K
          try simp only [List.getElem_toArray, List.getElem_cons_succ, List.getElem_cons_zero, Act.put, List.setIfInBounds_toArray, List.set_cons_zero, List.set_cons_succ]
          refine wpAnyH_take (i := 8) (v := ?vaU1_8) rfl (by kernel_rfl) (by kernel_rfl) (by kernel_rfl) (fun _ _ _ h => h) (Or.inl ⟨rfl, ?yaU1_8⟩) (by assumption) ?_
          case yaU1_8 => (intro w hSw; (try dsimp only at hSw); go_simp; first | done | with_reducible rfl)
          simp only [List.getElem_toArray, List.getElem_cons_succ, List.getElem_cons_zero, Act.put, List.setIfInBounds_toArray, List.set_cons_zero, List.set_cons_succ]
          refine wpAnyH_take (i := 9) (v := ?vaU1_9) rfl (by kernel_rfl) (by kernel_rfl) (by kernel_rfl) (fun _ _ _ h => h) (Or.inl ⟨rfl, ?yaU1_9⟩) (by assumption) ?_
          case yaU1_9 => (intro w hSw; (try dsimp only at hSw); go_simp; first | done | with_reducible rfl)
          simp only [List.getElem_toArray, List.getElem_cons_succ, List.getElem_cons_zero, Act.put, List.setIfInBounds_toArray, List.set_cons_zero, List.set_cons_succ]
          refine wpAnyH_take (i := 10) (v := ?vaU1_10) rfl (by kernel_rfl) (by kernel_rfl) (by kernel_rfl) (fun _ _ _ h => h) (Or.inl ⟨rfl, ?yaU1_10⟩) (by assumption) ?_
          case yaU1_10 => (intro w hSw; (try dsimp only at hSw); go_simp; first | done | with_reducible rfl)
          simp only [List.getElem_toArray, List.getElem_cons_succ, List.getElem_cons_zero, Act.put, List.setIfInBounds_toArray, List.set_cons_zero, List.set_cons_succ]
          refine wpAnyH_take (i := 11) (v := ?vaU1_11) rfl (by kernel_rfl) (by kernel_rfl) (by kernel_rfl) (fun _ _ _ h => h) (Or.inl ⟨rfl, ?yaU1_11⟩) (by assumption) ?_
          case yaU1_11 => (intro w hSw; (try dsimp only at hSw); go_simp; first | done | with_reducible rfl)
          simp only [List.getElem_toArray, List.getElem_cons_succ, List.getElem_cons_zero, Act.put, List.setIfInBounds_toArray, List.set_cons_zero, List.set_cons_succ]
          refine wpAnyH_take (i := 12) (v := ?vaU1_12) rfl (by kernel_rfl) (by kernel_rfl) (by kernel_rfl) (fun _ _ _ h => h) (Or.inl ⟨rfl, ?yaU1_12⟩) (by assumption) ?_
          case yaU1_12 => (intro w hSw; (try dsimp only at hSw); go_simp; first | done | with_reducible rfl)
          simp only [List.getElem_toArray, List.getElem_cons_succ, List.getElem_cons_zero, Act.put, List.setIfInBounds_toArray, List.set_cons_zero, List.set_cons_succ]
          refine wpAnyH_done (by kernel_rfl) ?_ _
          have hT5 := Lib.hid (hT.out.below hHeld.1)
          have hwz5 : w1.heap.size + 1 ≤ w5.heap.size := Nat.le_trans hwz hHeld.1.size
          have hbw5 := Lib.hid (hbw.trans (hHeld.1.mono hwz))
          have hwr1 := Lib.hid (write_two _ _ _ v1 _ _ w5 hT5.out (by rw [hPk.out]; omega) hwz5)
          clear hHeld d0 d1
          go_wp2_with fail
          refine (hwr1.out).mono ?_
          rintro e w6 ⟨rfl, hT6, hb6⟩
          have hwr2 := Lib.hid (write_two _ _ _ v2 _ _ w6 hT6.symm (by rw [hLk.out]; omega) (Nat.le_trans hwz5 hb6.size))
          have hbw6 := Lib.hid (hbw5.out.trans hb6)
          clear hT6 hb6
          go_wp2_with fail
          refine (hwr2.out).mono ?_
          rintro e w7 ⟨rfl, hT7, hb7⟩
          have hfin := Lib.hid (show TwoB (w1.heap.size + 1) (w1.heap.size + 1) (w1.heap.size + 1 + 1) (planL ps t s (k + 1)) (letsL ps t s (k + 1)) w7 ∧ Below (w1.heap.size + 1) (w1.alloc (.cells #[.map (some r1), .map (some r2)] 74)) w7 from ⟨by rw [hP.out, hL.out]; exact hT7.symm, hbw6.out.trans hb7⟩)
          clear hT7 hb7
          go_wp2
          go_roundw
          case rel => exact ⟨k + 1, by omega, by go_num, hfin.out⟩
          case measure => simp [intOf]; omega
        · obtain rfl : k = t.size := by omega
          have hs1 := Lib.hid (str_two _ _ _ _ _ wr hT.out hwz)
          clear hbx
          go_wp2_with fail
          refine (hs1.out).mono ?_
          rintro e w6 ⟨rfl, hB6, hb6⟩
          have hs2 := Lib.hid (Try.Builder_String_any_f (w1.heap.size + 1) (w1.heap.size + 1 + 1) (letsL ps t s t.size) w6 hB6 (Nat.le_trans hwz hb6.size))
          have hbw6 := Lib.hid (hbw.trans hb6)
          clear hB6 hb6
          go_wp2_with fail
          refine (hs2.out).mono ?_
          rintro e w7 ⟨rfl, _, hb7⟩
          have hbz := Lib.hid (hbw2.out.trans ((hbw6.out.trans hb7).mono (Nat.le_succ_of_le hw1)))
          clear hb7
          go_wp2
          go_ret3
          exact ⟨ret_c3 hres.out, hbz.out⟩
  · have hres : Hid (r = (ByteArray.empty, ByteArray.empty, q)) := Lib.hid (by rw [hr.out, coP, hq, if_neg h0])
    have g0 : (q == 0) = false := beq_eq_false_iff_ne.2 h0
    have g4 : (q != 0) = true := by rw [bne, g0]; rfl
    replace h0 := Lib.hid h0
    clear hr h hg hq
    go_enter Try.func23, Try.ntmps23
    go_wp2_with fail
    refine (hrd.out).mono ?_
    rintro e w1 ⟨hb1, ⟨_, rfl⟩ | ⟨h9, _⟩⟩
    · go_wp2
      go_ret3
      exact ⟨ret_c3 hres.out, hb1.alloc hb1.size _⟩
    · exact absurd h9 h0.out
end Go.Proofs.Ytomnnhmhmehdjaa
