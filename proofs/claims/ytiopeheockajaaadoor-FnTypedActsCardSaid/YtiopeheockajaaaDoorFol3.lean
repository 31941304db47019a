/- The program follows acts: the events and the place. -/
import Derived.Test.YtiopeheockajaaaDoorFol2
import Derived.Test.YtiopeheockajaaaDoorStruckO
namespace Go.Proofs.YtiopeheockajaaaDoor
open Go.RowKit Go.ChangeShapes Go.WideShapes Go.Deep
set_option linter.unusedVariables false
set_option linter.unusedSimpArgs false

/-- The events of acts, up to one that is stopped. -/
def evs (c : CarriageD) : StD → List ActD → List EvD
  | _, [] => []
  | s, a :: l => match actS c s a with
    | none => [evStop]
    | some s' => evOf c s a :: evs c s' l
theorem evs_stop {c : CarriageD} {s : StD} {l : List ActD} {k : Nat} {a : ActD} (ha : l[k]? = some a) (h : actS c s a = none) : evs c s (l.drop k) = [evStop] := by
  obtain ⟨h1, rfl⟩ := List.getElem?_eq_some_iff.1 ha
  rw [List.drop_eq_getElem_cons h1, evs, h]
theorem evs_go {c : CarriageD} {s s' : StD} {l : List ActD} {k : Nat} {a : ActD} (ha : l[k]? = some a) (h : actS c s a = some s') : evs c s (l.drop k) = evOf c s a :: evs c s' (l.drop (k + 1)) := by
  obtain ⟨h1, rfl⟩ := List.getElem?_eq_some_iff.1 ha
  rw [List.drop_eq_getElem_cons h1, evs, h]
theorem evs_end {c : CarriageD} {s : StD} {l : List ActD} {k : Nat} (h : l.length = k) : evs c s (l.drop k) = [] := by
  rw [List.drop_of_length_le (by omega)]
  rfl
abbrev OEvs (w : World) (base : Nat) (A : Option Addr) (n : Nat) (xs : List EvD) : Prop := ORow 68 4 EvD.cells w base A n xs
theorem Tryd.infoEvent : (Tryd.prog.info? 68).map (fun i => (i.zero, i.size, i.bytes)) = some (some (.agg #[.int .i64 0, .string ⟨#[]⟩, .bool false, .bool false]), 4, 32) := by kernel_rfl
theorem owns_evs {w : World} {base n : Nat} {L : Value} {l : List EvD} (hn : l.length = n) (h : w.ownsRow base 68 4 L n (l.flatMap EvD.cells)) : ∃ A c, L = .slice A n c ∧ OEvs w base A n l := by
  subst hn
  exact ORow.of_owns (fun _ => rfl) h
theorem owns_R {w w' : World} {base R m : Nat} {v : Value} {n : Nat} {xs : List Value} {f : Nat → Value} (h : w.ownsRow base 68 4 v n xs) (hr : w.rowIs R 102 m f) (hg : w.grownBy w' (some R)) : w'.ownsRow base 68 4 v n xs :=
  owns_block h fun g hgv => hg.block g (by
    obtain ⟨_, ⟨rfl, _⟩ | ⟨g', cap, cur, rfl, _, hg', _⟩⟩ := h
    · cases hgv
    · cases hgv; exact (Array.getElem?_eq_some_iff.1 hg').1) (fun e => owns_apart h hr (by decide) (by rw [hgv]; exact e))
theorem ev_snoc (l : List EvD) (x : EvD) : (l ++ [x]).flatMap EvD.cells = l.flatMap EvD.cells ++ [.int .i64 x.place, .string x.letter, .bool x.rung, .bool x.stopped] := by simp [EvD.cells]
theorem below_R {B R : Nat} {w0 w w' : World} (h : Below B w0 w) (hR : B ≤ R) (hB : B ≤ w.heap.size) (hg : w.grownBy w' (some R)) : Below B w0 w' := h.grown hg hB fun k hk => by cases hk; exact hR

theorem owns_old {w : World} {base : Nat} {E : TypeId} {size n : Nat} {v : Value} {xs : List Value} (h : w.ownsRow base E size v n xs) : some w.heap.size ≠ v.ownBlock := by
  obtain ⟨_, ⟨rfl, _⟩ | ⟨g', cap, cur, rfl, _, hg', _⟩⟩ := h
  · simp [Value.ownBlock]
  · have := (Array.getElem?_eq_some_iff.1 hg').1
    simp [Value.ownBlock]
    omega
theorem im_new (w : World) (left right bell : Int) : IM ((w.alloc (.cells #[.int .i64 left, .int .i64 right, .int .i64 bell] 27)).alloc (.cells #[.int .i64 left, .int .i64 right, .int .i64 bell, .int .i64 left, .bool false] 102)) (w.heap.size + 1) ⟨left, right, bell⟩ left false := by
  refine ⟨fun i => (#[Value.int .i64 left, .int .i64 right, .int .i64 bell, .int .i64 left, .bool false][i]?).getD undef, ⟨#[Value.int .i64 left, .int .i64 right, .int .i64 bell, .int .i64 left, .bool false], ?_, rfl, fun i hi => ?_⟩, rfl, rfl, rfl, rfl, rfl⟩
  · have := heap_alloc_new (w.alloc (.cells #[.int .i64 left, .int .i64 right, .int .i64 bell] 27)) (.cells #[.int .i64 left, .int .i64 right, .int .i64 bell, .int .i64 left, .bool false] 102)
    simpa using this
  · match i, hi with
    | 0, _ => rfl
    | 1, _ => rfl
    | 2, _ => rfl
    | 3, _ => rfl
    | 4, _ => rfl
set_option maxRecDepth 100000 in
set_option maxHeartbeats 4000000 in
theorem follow_impl (c : CarriageD) (A : Option Addr) (n cc : Nat) (xs : List ActD) (w : World) (hc : carOk c = true) (h : Acts w A n xs) (hn : n ≤ 200) (hx : ∀ x ∈ xs, actOk x = true) :
    Calls Tryd.prog 40 #[.agg #[.int .i64 c.left, .int .i64 c.right, .int .i64 c.bell], .slice A n cc] w fun e w' => ∃ A' n' c', e = .returned (.tuple #[.slice A' n' c', .int .i64 (ran c xs).1.at_]) ∧ n' ≤ 200 ∧ OEvs w' w.heap.size A' n' (evs c (startS c) xs) ∧ Below w.heap.size w w' := by
  obtain ⟨i0, hi, hz0, hz1, hz2⟩ := info_parts Tryd.infoEvent
  have hcl := (carOk_iff.1 hc).1
  have hfin := Lib.hid (fun (s s' : StD) (a : ActD) (k : Nat) (hs : s.fine k) (hh : actS c s a = some s') => actS_fine hc hs hh)
  have hst := Lib.hid (start_fine hc)
  replace hx := Lib.hid hx
  obtain ⟨p, hp⟩ : ∃ p, ran c xs = p := ⟨_, rfl⟩
  obtain ⟨E, hE⟩ : ∃ E, evs c (startS c) xs = E := ⟨_, rfl⟩
  have hp2 : Hid (p.1 = (runS c (startS c) (xs.drop 0)).1 ∧ E = [] ++ evs c (startS c) (xs.drop 0)) := Lib.hid (by rw [← hp, ← hE]; exact ⟨rfl, rfl⟩)
  rw [hp, hE]
  obtain ⟨p1, p2⟩ := p
  clear hp hc hE
  obtain ⟨left, right, bell⟩ := c
  go_enter Tryd.func40, Tryd.ntmps40
  go_wp2
  have hM0 := Lib.hid (im_new w left right bell)
  have hB0 := Lib.hid (below_a2 w (.cells #[.int .i64 left, .int .i64 right, .int .i64 bell] 27) (.cells #[.int .i64 left, .int .i64 right, .int .i64 bell, .int .i64 left, .bool false] 102))
  obtain ⟨w0, hw0⟩ : ∃ w0, ((w.alloc (.cells #[.int .i64 left, .int .i64 right, .int .i64 bell] 27)).alloc (.cells #[.int .i64 left, .int .i64 right, .int .i64 bell, .int .i64 left, .bool false] 102)) = w0 := ⟨_, rfl⟩
  rw [hw0] at hM0 hB0 ⊢
  clear hw0
  generalize hRR : w.heap.size + 1 = R at *
  replace hRR := Lib.hid hRR
  go_loopw [7, 17] (fun v i wr => ∃ (k : Nat) (s : StD) (done : List EvD), k ≤ n ∧ i = .int .i64 k ∧ Below w.heap.size w wr ∧ IM wr R ⟨left, right, bell⟩ s.at_ s.free ∧ s.fine k ∧ done.length = k ∧ wr.ownsRow w.heap.size 68 4 v k (done.flatMap EvD.cells) ∧ p1 = (runS ⟨left, right, bell⟩ s (xs.drop k)).1 ∧ E = done ++ evs ⟨left, right, bell⟩ s (xs.drop k)) (fun _ i _ => n - (intOf i).toNat)
  case atStart => exact ⟨0, _, [], by omega, rfl, hB0.out, hM0.out, hst.out, rfl, ⟨rfl, .inl ⟨rfl, rfl⟩⟩, hp2.out.1, hp2.out.2⟩
  case round =>
    rename World => wr
    obtain ⟨k, s, done, hk, rfl, hbw, hM, hfk, hdl, hrow, e1, e2⟩ := hrel
    replace e1 := Lib.hid e1
    replace e2 := Lib.hid e2
    by_cases hlt : k < n
    · obtain ⟨b, off, x, rfl, hb, hxs, c0, c1⟩ := act_at h hlt
      replace c0 := (hbw.cell (p := ⟨b, off + k * 2, none⟩) hb).trans c0
      replace c1 := (hbw.cell (p := ⟨b, off + k * 2 + 1, none⟩) hb).trans c1
      have hk0 : (0 : Int) ≤ (k : Int) := Int.natCast_nonneg _
      have hk1 : (k : Int) < (n : Int) := by omega
      have hkd := actOk_kind (hx.out x (List.mem_of_getElem? hxs.out))
      obtain ⟨kind, letter⟩ := x
      simp only at c0 c1 hkd
      have hwz := hbw.size
      replace hrow := Lib.hid hrow
      rcases hkd with hkd | hkd | hkd | hkd | hkd | hkd <;> subst hkd
      · go_wp2_with fail
        refine (deed0 letter _).mono ?_
        rintro e w1 ⟨rfl, hb1⟩
        have hB1 := (below_a1 _ _).step hb1
        have hM1 := hM.below hB1
        have hrow1 := owns_below hrow.out hB1
        have hbw1 := Lib.hid (hbw.trans (hB1.mono hbw.size))
        clear hb1 hrow
        go_wp2_with fail
        refine (do0 ⟨left, right, bell⟩ s letter R w1 hM1 hfk.1 hcl).mono ?_
        rintro e w2 hdo
        obtain ⟨fR, hrR⟩ := hM1.row
        rcases hdo with ⟨ha, rfl, hg2, hM2⟩ | ⟨s', ha, rfl, hg2, hM2⟩
        · have hrow2 := owns_R hrow1 hrR hg2
          have hbw2 := Lib.hid (below_R hbw1.out (by rw [← hRR.out]; omega) hbw1.out.size hg2)
          have hz2b := hbw2.out.size
          clear hrow1 hrR hg2 hM1 hB1
          have hq1 : Hid (p1 = s) := Lib.hid (by rw [e1.out, runS_stop hxs.out ha])
          have hq2 : Hid (E = done ++ [evStop]) := Lib.hid (by rw [e2.out, evs_stop hxs.out ha])
          replace ha := Lib.hid ha
          replace hM2 := Lib.hid hM2
          go_wp2_with (at_builtin; refine wpList_append_own _ rfl _ _ 62 rfl w.heap.size 68 i0 _ 4 32 Tryd.underlying62 hi hz0 hz1 hz2 rfl (by decide) _ _ _ rfl ((hrow2.alloc _).alloc _) ⟨w2.heap.size + 1, 0, none⟩ 1 1 [.int .i64 evStop.place, .string evStop.letter, .bool evStop.rung, .bool evStop.stopped] rfl rfl ?a0 ?b0 ?c0 ?d0 ?e0 ?_)
          case a0 =>
            intro j u hj
            match j, hj with
            | 0, hj => cases hj; exact cell_new (by simp [Addr.add]) rfl
            | 1, hj => cases hj; exact cell_new (by simp [Addr.add]) rfl
            | 2, hj => cases hj; exact cell_new (by simp [Addr.add]) rfl
            | 3, hj => cases hj; exact cell_new (by simp [Addr.add]) rfl
            | j + 4, hj => simp at hj
          case b0 =>
            intro u hu
            simp only [List.mem_cons, List.not_mem_nil, or_false] at hu
            rcases hu with rfl | rfl | rfl | rfl <;> rfl
          case c0 => unfold maxLen; omega
          case d0 => omega
          case e0 =>
            simp
            omega
          intro v' w3 hown3 hgr3 hnil
          have hgr := grown_trans (grown_below (below_a2 w2 _ _) _) hgr3
          have x3 : w3.cell? ⟨w2.heap.size, 3, none⟩ = some (.bool evStop.stopped) := hgr3.cell (cell_on (cell_new rfl rfl) _) (owns_old hrow2)
          have hM3 := hM2.out.grown hgr (owns_apart hrow2 hM2.out.row.choose_spec (by decide))
          have hB3 := Lib.hid (hbw2.out.grown hgr hz2b (fun j hj => owns_ge hrow2 hj))
          have hz3b := hgr.size
          have hown4 : w3.ownsRow w.heap.size 68 4 v' (k + 1) ((done ++ [evStop]).flatMap EvD.cells) := by rw [ev_snoc]; exact hown3
          clear hown3 hgr3 hnil hgr hrow2
          obtain ⟨A', c', rfl, hO⟩ := owns_evs (by simp [hdl]) hown4
          have hO2 := Lib.hid hO
          obtain ⟨d0, d1, d2, d3, d4⟩ := hM3.cells
          have hdl' := Lib.hid hdl
          clear hO hown4 hM3 hdl
          go_wp2_with fail
          go_quiet (fail)
          go_wp2
          go_ret2
          obtain rfl := hq1.out
          obtain rfl := hq2.out
          exact ⟨A', k + 1, c', rfl, by omega, hO2.out, below_drewN hB3.out _⟩
        · generalize hev : evOf ⟨left, right, bell⟩ s ⟨0, letter⟩ = ev at *
          have hsf : ev.stopped = false := by rw [← hev]; rfl
          have hrow2 := owns_R hrow1 hrR hg2
          have hbw2 := Lib.hid (below_R hbw1.out (by rw [← hRR.out]; omega) hbw1.out.size hg2)
          have hz2b := hbw2.out.size
          clear hrow1 hrR hg2 hM1 hB1
          have hq1 : Hid (p1 = (runS ⟨left, right, bell⟩ s' (xs.drop (k + 1))).1) := Lib.hid (by rw [e1.out, runS_go hxs.out ha])
          have hq2 : Hid (E = (done ++ [ev]) ++ evs ⟨left, right, bell⟩ s' (xs.drop (k + 1))) := Lib.hid (by rw [e2.out, evs_go hxs.out ha, hev]; simp)
          have hf2 := Lib.hid (hfin.out s s' _ k hfk ha)
          clear ha hev
          replace hM2 := Lib.hid hM2
          go_wp2_with (at_builtin; refine wpList_append_own _ rfl _ _ 62 rfl w.heap.size 68 i0 _ 4 32 Tryd.underlying62 hi hz0 hz1 hz2 rfl (by decide) _ _ _ rfl ((hrow2.alloc _).alloc _) ⟨w2.heap.size + 1, 0, none⟩ 1 1 [.int .i64 ev.place, .string ev.letter, .bool ev.rung, .bool false] rfl rfl ?a1 ?b1 ?c1 ?d1 ?e1 ?_)
          case a1 =>
            intro j u hj
            match j, hj with
            | 0, hj => cases hj; exact cell_new (by simp [Addr.add]) rfl
            | 1, hj => cases hj; exact cell_new (by simp [Addr.add]) rfl
            | 2, hj => cases hj; exact cell_new (by simp [Addr.add]) rfl
            | 3, hj => cases hj; exact cell_new (by simp [Addr.add]) rfl
            | j + 4, hj => simp at hj
          case b1 =>
            intro u hu
            simp only [List.mem_cons, List.not_mem_nil, or_false] at hu
            rcases hu with rfl | rfl | rfl | rfl <;> rfl
          case c1 => unfold maxLen; omega
          case d1 => omega
          case e1 =>
            simp
            omega
          intro v' w3 hown3 hgr3 hnil
          have hgr := grown_trans (grown_below (below_a2 w2 _ _) _) hgr3
          have x3 : w3.cell? ⟨w2.heap.size, 3, none⟩ = some (.bool false) := hgr3.cell (cell_on (cell_new rfl rfl) _) (owns_old hrow2)
          have hM3 := hM2.out.grown hgr (owns_apart hrow2 hM2.out.row.choose_spec (by decide))
          have hB3 := Lib.hid (hbw2.out.grown hgr hz2b (fun j hj => owns_ge hrow2 hj))
          have hz3b := hgr.size
          have hown4 : w3.ownsRow w.heap.size 68 4 v' (k + 1) ((done ++ [ev]).flatMap EvD.cells) := by rw [ev_snoc, hsf]; exact hown3
          have hfin4 := Lib.hid hown4
          have hM4 := Lib.hid hM3
          have hdl' : Hid ((done ++ [ev]).length = k + 1) := Lib.hid (by simp [hdl])
          clear hown3 hgr3 hnil hgr hrow2 hown4 hM3 hdl
          go_wp2
          go_roundw
          case rel => exact ⟨k + 1, s', done ++ [ev], by omega, by go_num, hB3.out, hM4.out, hf2.out, hdl'.out, hfin4.out, hq1.out, hq2.out⟩
          case measure => simp [intOf]; omega
      · go_wp2_with fail
        refine (deed1 letter _).mono ?_
        rintro e w1 ⟨rfl, hb1⟩
        have hB1 := (below_a1 _ _).step hb1
        have hM1 := hM.below hB1
        have hrow1 := owns_below hrow.out hB1
        have hbw1 := Lib.hid (hbw.trans (hB1.mono hbw.size))
        clear hb1 hrow
        go_wp2_with fail
        refine (do1 ⟨left, right, bell⟩ s letter R w1 hM1 hfk.1 hcl).mono ?_
        rintro e w2 hdo
        obtain ⟨fR, hrR⟩ := hM1.row
        rcases hdo with ⟨ha, rfl, hg2, hM2⟩ | ⟨s', ha, rfl, hg2, hM2⟩
        · have hrow2 := owns_R hrow1 hrR hg2
          have hbw2 := Lib.hid (below_R hbw1.out (by rw [← hRR.out]; omega) hbw1.out.size hg2)
          have hz2b := hbw2.out.size
          clear hrow1 hrR hg2 hM1 hB1
          have hq1 : Hid (p1 = s) := Lib.hid (by rw [e1.out, runS_stop hxs.out ha])
          have hq2 : Hid (E = done ++ [evStop]) := Lib.hid (by rw [e2.out, evs_stop hxs.out ha])
          replace ha := Lib.hid ha
          replace hM2 := Lib.hid hM2
          go_wp2_with (at_builtin; refine wpList_append_own _ rfl _ _ 62 rfl w.heap.size 68 i0 _ 4 32 Tryd.underlying62 hi hz0 hz1 hz2 rfl (by decide) _ _ _ rfl ((hrow2.alloc _).alloc _) ⟨w2.heap.size + 1, 0, none⟩ 1 1 [.int .i64 evStop.place, .string evStop.letter, .bool evStop.rung, .bool evStop.stopped] rfl rfl ?a2 ?b2 ?c2 ?d2 ?e2 ?_)
          case a2 =>
            intro j u hj
            match j, hj with
            | 0, hj => cases hj; exact cell_new (by simp [Addr.add]) rfl
            | 1, hj => cases hj; exact cell_new (by simp [Addr.add]) rfl
            | 2, hj => cases hj; exact cell_new (by simp [Addr.add]) rfl
            | 3, hj => cases hj; exact cell_new (by simp [Addr.add]) rfl
            | j + 4, hj => simp at hj
          case b2 =>
            intro u hu
            simp only [List.mem_cons, List.not_mem_nil, or_false] at hu
            rcases hu with rfl | rfl | rfl | rfl <;> rfl
          case c2 => unfold maxLen; omega
          case d2 => omega
          case e2 =>
            simp
            omega
          intro v' w3 hown3 hgr3 hnil
          have hgr := grown_trans (grown_below (below_a2 w2 _ _) _) hgr3
          have x3 : w3.cell? ⟨w2.heap.size, 3, none⟩ = some (.bool evStop.stopped) := hgr3.cell (cell_on (cell_new rfl rfl) _) (owns_old hrow2)
          have hM3 := hM2.out.grown hgr (owns_apart hrow2 hM2.out.row.choose_spec (by decide))
          have hB3 := Lib.hid (hbw2.out.grown hgr hz2b (fun j hj => owns_ge hrow2 hj))
          have hz3b := hgr.size
          have hown4 : w3.ownsRow w.heap.size 68 4 v' (k + 1) ((done ++ [evStop]).flatMap EvD.cells) := by rw [ev_snoc]; exact hown3
          clear hown3 hgr3 hnil hgr hrow2
          obtain ⟨A', c', rfl, hO⟩ := owns_evs (by simp [hdl]) hown4
          have hO2 := Lib.hid hO
          obtain ⟨d0, d1, d2, d3, d4⟩ := hM3.cells
          have hdl' := Lib.hid hdl
          clear hO hown4 hM3 hdl
          go_wp2_with fail
          go_quiet (fail)
          go_wp2
          go_ret2
          obtain rfl := hq1.out
          obtain rfl := hq2.out
          exact ⟨A', k + 1, c', rfl, by omega, hO2.out, below_drewN hB3.out _⟩
        · generalize hev : evOf ⟨left, right, bell⟩ s ⟨1, letter⟩ = ev at *
          have hsf : ev.stopped = false := by rw [← hev]; rfl
          have hrow2 := owns_R hrow1 hrR hg2
          have hbw2 := Lib.hid (below_R hbw1.out (by rw [← hRR.out]; omega) hbw1.out.size hg2)
          have hz2b := hbw2.out.size
          clear hrow1 hrR hg2 hM1 hB1
          have hq1 : Hid (p1 = (runS ⟨left, right, bell⟩ s' (xs.drop (k + 1))).1) := Lib.hid (by rw [e1.out, runS_go hxs.out ha])
          have hq2 : Hid (E = (done ++ [ev]) ++ evs ⟨left, right, bell⟩ s' (xs.drop (k + 1))) := Lib.hid (by rw [e2.out, evs_go hxs.out ha, hev]; simp)
          have hf2 := Lib.hid (hfin.out s s' _ k hfk ha)
          clear ha hev
          replace hM2 := Lib.hid hM2
          go_wp2_with (at_builtin; refine wpList_append_own _ rfl _ _ 62 rfl w.heap.size 68 i0 _ 4 32 Tryd.underlying62 hi hz0 hz1 hz2 rfl (by decide) _ _ _ rfl ((hrow2.alloc _).alloc _) ⟨w2.heap.size + 1, 0, none⟩ 1 1 [.int .i64 ev.place, .string ev.letter, .bool ev.rung, .bool false] rfl rfl ?a3 ?b3 ?c3 ?d3 ?e3 ?_)
          case a3 =>
            intro j u hj
            match j, hj with
            | 0, hj => cases hj; exact cell_new (by simp [Addr.add]) rfl
            | 1, hj => cases hj; exact cell_new (by simp [Addr.add]) rfl
            | 2, hj => cases hj; exact cell_new (by simp [Addr.add]) rfl
            | 3, hj => cases hj; exact cell_new (by simp [Addr.add]) rfl
            | j + 4, hj => simp at hj
          case b3 =>
            intro u hu
            simp only [List.mem_cons, List.not_mem_nil, or_false] at hu
            rcases hu with rfl | rfl | rfl | rfl <;> rfl
          case c3 => unfold maxLen; omega
          case d3 => omega
          case e3 =>
            simp
            omega
          intro v' w3 hown3 hgr3 hnil
          have hgr := grown_trans (grown_below (below_a2 w2 _ _) _) hgr3
          have x3 : w3.cell? ⟨w2.heap.size, 3, none⟩ = some (.bool false) := hgr3.cell (cell_on (cell_new rfl rfl) _) (owns_old hrow2)
          have hM3 := hM2.out.grown hgr (owns_apart hrow2 hM2.out.row.choose_spec (by decide))
          have hB3 := Lib.hid (hbw2.out.grown hgr hz2b (fun j hj => owns_ge hrow2 hj))
          have hz3b := hgr.size
          have hown4 : w3.ownsRow w.heap.size 68 4 v' (k + 1) ((done ++ [ev]).flatMap EvD.cells) := by rw [ev_snoc, hsf]; exact hown3
          have hfin4 := Lib.hid hown4
          have hM4 := Lib.hid hM3
          have hdl' : Hid ((done ++ [ev]).length = k + 1) := Lib.hid (by simp [hdl])
          clear hown3 hgr3 hnil hgr hrow2 hown4 hM3 hdl
          go_wp2
          go_roundw
          case rel => exact ⟨k + 1, s', done ++ [ev], by omega, by go_num, hB3.out, hM4.out, hf2.out, hdl'.out, hfin4.out, hq1.out, hq2.out⟩
          case measure => simp [intOf]; omega
      · go_wp2_with fail
        refine (deed2 letter _).mono ?_
        rintro e w1 ⟨rfl, hb1⟩
        have hB1 := (below_a1 _ _).step hb1
        have hM1 := hM.below hB1
        have hrow1 := owns_below hrow.out hB1
        have hbw1 := Lib.hid (hbw.trans (hB1.mono hbw.size))
        clear hb1 hrow
        go_wp2_with fail
        refine (do2 ⟨left, right, bell⟩ s letter R w1 hM1 hfk.1 hcl).mono ?_
        rintro e w2 hdo
        obtain ⟨fR, hrR⟩ := hM1.row
        rcases hdo with ⟨ha, rfl, hg2, hM2⟩ | ⟨s', ha, rfl, hg2, hM2⟩
        · exact absurd ha (by simp [actS])
        · generalize hev : evOf ⟨left, right, bell⟩ s ⟨2, letter⟩ = ev at *
          have hsf : ev.stopped = false := by rw [← hev]; rfl
          have hrow2 := owns_R hrow1 hrR hg2
          have hbw2 := Lib.hid (below_R hbw1.out (by rw [← hRR.out]; omega) hbw1.out.size hg2)
          have hz2b := hbw2.out.size
          clear hrow1 hrR hg2 hM1 hB1
          have hq1 : Hid (p1 = (runS ⟨left, right, bell⟩ s' (xs.drop (k + 1))).1) := Lib.hid (by rw [e1.out, runS_go hxs.out ha])
          have hq2 : Hid (E = (done ++ [ev]) ++ evs ⟨left, right, bell⟩ s' (xs.drop (k + 1))) := Lib.hid (by rw [e2.out, evs_go hxs.out ha, hev]; simp)
          have hf2 := Lib.hid (hfin.out s s' _ k hfk ha)
          clear ha hev
          replace hM2 := Lib.hid hM2
          go_wp2_with (at_builtin; refine wpList_append_own _ rfl _ _ 62 rfl w.heap.size 68 i0 _ 4 32 Tryd.underlying62 hi hz0 hz1 hz2 rfl (by decide) _ _ _ rfl ((hrow2.alloc _).alloc _) ⟨w2.heap.size + 1, 0, none⟩ 1 1 [.int .i64 ev.place, .string ev.letter, .bool ev.rung, .bool false] rfl rfl ?a5 ?b5 ?c5 ?d5 ?e5 ?_)
          case a5 =>
            intro j u hj
            match j, hj with
            | 0, hj => cases hj; exact cell_new (by simp [Addr.add]) rfl
            | 1, hj => cases hj; exact cell_new (by simp [Addr.add]) rfl
            | 2, hj => cases hj; exact cell_new (by simp [Addr.add]) rfl
            | 3, hj => cases hj; exact cell_new (by simp [Addr.add]) rfl
            | j + 4, hj => simp at hj
          case b5 =>
            intro u hu
            simp only [List.mem_cons, List.not_mem_nil, or_false] at hu
            rcases hu with rfl | rfl | rfl | rfl <;> rfl
          case c5 => unfold maxLen; omega
          case d5 => omega
          case e5 =>
            simp
            omega
          intro v' w3 hown3 hgr3 hnil
          have hgr := grown_trans (grown_below (below_a2 w2 _ _) _) hgr3
          have x3 : w3.cell? ⟨w2.heap.size, 3, none⟩ = some (.bool false) := hgr3.cell (cell_on (cell_new rfl rfl) _) (owns_old hrow2)
          have hM3 := hM2.out.grown hgr (owns_apart hrow2 hM2.out.row.choose_spec (by decide))
          have hB3 := Lib.hid (hbw2.out.grown hgr hz2b (fun j hj => owns_ge hrow2 hj))
          have hz3b := hgr.size
          have hown4 : w3.ownsRow w.heap.size 68 4 v' (k + 1) ((done ++ [ev]).flatMap EvD.cells) := by rw [ev_snoc, hsf]; exact hown3
          have hfin4 := Lib.hid hown4
          have hM4 := Lib.hid hM3
          have hdl' : Hid ((done ++ [ev]).length = k + 1) := Lib.hid (by simp [hdl])
          clear hown3 hgr3 hnil hgr hrow2 hown4 hM3 hdl
          go_wp2
          go_roundw
          case rel => exact ⟨k + 1, s', done ++ [ev], by omega, by go_num, hB3.out, hM4.out, hf2.out, hdl'.out, hfin4.out, hq1.out, hq2.out⟩
          case measure => simp [intOf]; omega
      · go_wp2_with fail
        refine (deed3 letter _).mono ?_
        rintro e w1 ⟨rfl, hb1⟩
        have hB1 := (below_a1 _ _).step hb1
        have hM1 := hM.below hB1
        have hrow1 := owns_below hrow.out hB1
        have hbw1 := Lib.hid (hbw.trans (hB1.mono hbw.size))
        clear hb1 hrow
        go_wp2_with fail
        refine (do3 ⟨left, right, bell⟩ s letter R w1 hM1 hfk.1 hcl).mono ?_
        rintro e w2 hdo
        obtain ⟨fR, hrR⟩ := hM1.row
        rcases hdo with ⟨ha, rfl, hg2, hM2⟩ | ⟨s', ha, rfl, hg2, hM2⟩
        · have hrow2 := owns_R hrow1 hrR hg2
          have hbw2 := Lib.hid (below_R hbw1.out (by rw [← hRR.out]; omega) hbw1.out.size hg2)
          have hz2b := hbw2.out.size
          clear hrow1 hrR hg2 hM1 hB1
          have hq1 : Hid (p1 = s) := Lib.hid (by rw [e1.out, runS_stop hxs.out ha])
          have hq2 : Hid (E = done ++ [evStop]) := Lib.hid (by rw [e2.out, evs_stop hxs.out ha])
          replace ha := Lib.hid ha
          replace hM2 := Lib.hid hM2
          go_wp2_with (at_builtin; refine wpList_append_own _ rfl _ _ 62 rfl w.heap.size 68 i0 _ 4 32 Tryd.underlying62 hi hz0 hz1 hz2 rfl (by decide) _ _ _ rfl ((hrow2.alloc _).alloc _) ⟨w2.heap.size + 1, 0, none⟩ 1 1 [.int .i64 evStop.place, .string evStop.letter, .bool evStop.rung, .bool evStop.stopped] rfl rfl ?a6 ?b6 ?c6 ?d6 ?e6 ?_)
          case a6 =>
            intro j u hj
            match j, hj with
            | 0, hj => cases hj; exact cell_new (by simp [Addr.add]) rfl
            | 1, hj => cases hj; exact cell_new (by simp [Addr.add]) rfl
            | 2, hj => cases hj; exact cell_new (by simp [Addr.add]) rfl
            | 3, hj => cases hj; exact cell_new (by simp [Addr.add]) rfl
            | j + 4, hj => simp at hj
          case b6 =>
            intro u hu
            simp only [List.mem_cons, List.not_mem_nil, or_false] at hu
            rcases hu with rfl | rfl | rfl | rfl <;> rfl
          case c6 => unfold maxLen; omega
          case d6 => omega
          case e6 =>
            simp
            omega
          intro v' w3 hown3 hgr3 hnil
          have hgr := grown_trans (grown_below (below_a2 w2 _ _) _) hgr3
          have x3 : w3.cell? ⟨w2.heap.size, 3, none⟩ = some (.bool evStop.stopped) := hgr3.cell (cell_on (cell_new rfl rfl) _) (owns_old hrow2)
          have hM3 := hM2.out.grown hgr (owns_apart hrow2 hM2.out.row.choose_spec (by decide))
          have hB3 := Lib.hid (hbw2.out.grown hgr hz2b (fun j hj => owns_ge hrow2 hj))
          have hz3b := hgr.size
          have hown4 : w3.ownsRow w.heap.size 68 4 v' (k + 1) ((done ++ [evStop]).flatMap EvD.cells) := by rw [ev_snoc]; exact hown3
          clear hown3 hgr3 hnil hgr hrow2
          obtain ⟨A', c', rfl, hO⟩ := owns_evs (by simp [hdl]) hown4
          have hO2 := Lib.hid hO
          obtain ⟨d0, d1, d2, d3, d4⟩ := hM3.cells
          have hdl' := Lib.hid hdl
          clear hO hown4 hM3 hdl
          go_wp2_with fail
          go_quiet (fail)
          go_wp2
          go_ret2
          obtain rfl := hq1.out
          obtain rfl := hq2.out
          exact ⟨A', k + 1, c', rfl, by omega, hO2.out, below_drewN hB3.out _⟩
        · generalize hev : evOf ⟨left, right, bell⟩ s ⟨3, letter⟩ = ev at *
          have hsf : ev.stopped = false := by rw [← hev]; rfl
          have hrow2 := owns_R hrow1 hrR hg2
          have hbw2 := Lib.hid (below_R hbw1.out (by rw [← hRR.out]; omega) hbw1.out.size hg2)
          have hz2b := hbw2.out.size
          clear hrow1 hrR hg2 hM1 hB1
          have hq1 : Hid (p1 = (runS ⟨left, right, bell⟩ s' (xs.drop (k + 1))).1) := Lib.hid (by rw [e1.out, runS_go hxs.out ha])
          have hq2 : Hid (E = (done ++ [ev]) ++ evs ⟨left, right, bell⟩ s' (xs.drop (k + 1))) := Lib.hid (by rw [e2.out, evs_go hxs.out ha, hev]; simp)
          have hf2 := Lib.hid (hfin.out s s' _ k hfk ha)
          clear ha hev
          replace hM2 := Lib.hid hM2
          go_wp2_with (at_builtin; refine wpList_append_own _ rfl _ _ 62 rfl w.heap.size 68 i0 _ 4 32 Tryd.underlying62 hi hz0 hz1 hz2 rfl (by decide) _ _ _ rfl ((hrow2.alloc _).alloc _) ⟨w2.heap.size + 1, 0, none⟩ 1 1 [.int .i64 ev.place, .string ev.letter, .bool ev.rung, .bool false] rfl rfl ?a7 ?b7 ?c7 ?d7 ?e7 ?_)
          case a7 =>
            intro j u hj
            match j, hj with
            | 0, hj => cases hj; exact cell_new (by simp [Addr.add]) rfl
            | 1, hj => cases hj; exact cell_new (by simp [Addr.add]) rfl
            | 2, hj => cases hj; exact cell_new (by simp [Addr.add]) rfl
            | 3, hj => cases hj; exact cell_new (by simp [Addr.add]) rfl
            | j + 4, hj => simp at hj
          case b7 =>
            intro u hu
            simp only [List.mem_cons, List.not_mem_nil, or_false] at hu
            rcases hu with rfl | rfl | rfl | rfl <;> rfl
          case c7 => unfold maxLen; omega
          case d7 => omega
          case e7 =>
            simp
            omega
          intro v' w3 hown3 hgr3 hnil
          have hgr := grown_trans (grown_below (below_a2 w2 _ _) _) hgr3
          have x3 : w3.cell? ⟨w2.heap.size, 3, none⟩ = some (.bool false) := hgr3.cell (cell_on (cell_new rfl rfl) _) (owns_old hrow2)
          have hM3 := hM2.out.grown hgr (owns_apart hrow2 hM2.out.row.choose_spec (by decide))
          have hB3 := Lib.hid (hbw2.out.grown hgr hz2b (fun j hj => owns_ge hrow2 hj))
          have hz3b := hgr.size
          have hown4 : w3.ownsRow w.heap.size 68 4 v' (k + 1) ((done ++ [ev]).flatMap EvD.cells) := by rw [ev_snoc, hsf]; exact hown3
          have hfin4 := Lib.hid hown4
          have hM4 := Lib.hid hM3
          have hdl' : Hid ((done ++ [ev]).length = k + 1) := Lib.hid (by simp [hdl])
          clear hown3 hgr3 hnil hgr hrow2 hown4 hM3 hdl
          go_wp2
          go_roundw
          case rel => exact ⟨k + 1, s', done ++ [ev], by omega, by go_num, hB3.out, hM4.out, hf2.out, hdl'.out, hfin4.out, hq1.out, hq2.out⟩
          case measure => simp [intOf]; omega
      · go_wp2_with fail
        refine (deed4 letter _).mono ?_
        rintro e w1 ⟨rfl, hb1⟩
        have hB1 := (below_a1 _ _).step hb1
        have hM1 := hM.below hB1
        have hrow1 := owns_below hrow.out hB1
        have hbw1 := Lib.hid (hbw.trans (hB1.mono hbw.size))
        clear hb1 hrow
        go_wp2_with fail
        refine (do4 ⟨left, right, bell⟩ s letter R w1 hM1 hfk.1 hcl).mono ?_
        rintro e w2 hdo
        obtain ⟨fR, hrR⟩ := hM1.row
        rcases hdo with ⟨ha, rfl, hg2, hM2⟩ | ⟨s', ha, rfl, hg2, hM2⟩
        · exact absurd ha (by simp [actS])
        · generalize hev : evOf ⟨left, right, bell⟩ s ⟨4, letter⟩ = ev at *
          have hsf : ev.stopped = false := by rw [← hev]; rfl
          have hrow2 := owns_R hrow1 hrR hg2
          have hbw2 := Lib.hid (below_R hbw1.out (by rw [← hRR.out]; omega) hbw1.out.size hg2)
          have hz2b := hbw2.out.size
          clear hrow1 hrR hg2 hM1 hB1
          have hq1 : Hid (p1 = (runS ⟨left, right, bell⟩ s' (xs.drop (k + 1))).1) := Lib.hid (by rw [e1.out, runS_go hxs.out ha])
          have hq2 : Hid (E = (done ++ [ev]) ++ evs ⟨left, right, bell⟩ s' (xs.drop (k + 1))) := Lib.hid (by rw [e2.out, evs_go hxs.out ha, hev]; simp)
          have hf2 := Lib.hid (hfin.out s s' _ k hfk ha)
          clear ha hev
          replace hM2 := Lib.hid hM2
          go_wp2_with (at_builtin; refine wpList_append_own _ rfl _ _ 62 rfl w.heap.size 68 i0 _ 4 32 Tryd.underlying62 hi hz0 hz1 hz2 rfl (by decide) _ _ _ rfl ((hrow2.alloc _).alloc _) ⟨w2.heap.size + 1, 0, none⟩ 1 1 [.int .i64 ev.place, .string ev.letter, .bool ev.rung, .bool false] rfl rfl ?a9 ?b9 ?c9 ?d9 ?e9 ?_)
          case a9 =>
            intro j u hj
            match j, hj with
            | 0, hj => cases hj; exact cell_new (by simp [Addr.add]) rfl
            | 1, hj => cases hj; exact cell_new (by simp [Addr.add]) rfl
            | 2, hj => cases hj; exact cell_new (by simp [Addr.add]) rfl
            | 3, hj => cases hj; exact cell_new (by simp [Addr.add]) rfl
            | j + 4, hj => simp at hj
          case b9 =>
            intro u hu
            simp only [List.mem_cons, List.not_mem_nil, or_false] at hu
            rcases hu with rfl | rfl | rfl | rfl <;> rfl
          case c9 => unfold maxLen; omega
          case d9 => omega
          case e9 =>
            simp
            omega
          intro v' w3 hown3 hgr3 hnil
          have hgr := grown_trans (grown_below (below_a2 w2 _ _) _) hgr3
          have x3 : w3.cell? ⟨w2.heap.size, 3, none⟩ = some (.bool false) := hgr3.cell (cell_on (cell_new rfl rfl) _) (owns_old hrow2)
          have hM3 := hM2.out.grown hgr (owns_apart hrow2 hM2.out.row.choose_spec (by decide))
          have hB3 := Lib.hid (hbw2.out.grown hgr hz2b (fun j hj => owns_ge hrow2 hj))
          have hz3b := hgr.size
          have hown4 : w3.ownsRow w.heap.size 68 4 v' (k + 1) ((done ++ [ev]).flatMap EvD.cells) := by rw [ev_snoc, hsf]; exact hown3
          have hfin4 := Lib.hid hown4
          have hM4 := Lib.hid hM3
          have hdl' : Hid ((done ++ [ev]).length = k + 1) := Lib.hid (by simp [hdl])
          clear hown3 hgr3 hnil hgr hrow2 hown4 hM3 hdl
          go_wp2
          go_roundw
          case rel => exact ⟨k + 1, s', done ++ [ev], by omega, by go_num, hB3.out, hM4.out, hf2.out, hdl'.out, hfin4.out, hq1.out, hq2.out⟩
          case measure => simp [intOf]; omega
      · go_wp2_with fail
        refine (deed5 letter _).mono ?_
        rintro e w1 ⟨rfl, hb1⟩
        have hB1 := (below_a1 _ _).step hb1
        have hM1 := hM.below hB1
        have hrow1 := owns_below hrow.out hB1
        have hbw1 := Lib.hid (hbw.trans (hB1.mono hbw.size))
        clear hb1 hrow
        go_wp2_with fail
        refine (do5 ⟨left, right, bell⟩ s letter R w1 hM1 hfk.1 hcl).mono ?_
        rintro e w2 hdo
        obtain ⟨fR, hrR⟩ := hM1.row
        rcases hdo with ⟨ha, rfl, hg2, hM2⟩ | ⟨s', ha, rfl, hg2, hM2⟩
        · exact absurd ha (by simp [actS])
        · generalize hev : evOf ⟨left, right, bell⟩ s ⟨5, letter⟩ = ev at *
          have hsf : ev.stopped = false := by rw [← hev]; rfl
          have hrow2 := owns_R hrow1 hrR hg2
          have hbw2 := Lib.hid (below_R hbw1.out (by rw [← hRR.out]; omega) hbw1.out.size hg2)
          have hz2b := hbw2.out.size
          clear hrow1 hrR hg2 hM1 hB1
          have hq1 : Hid (p1 = (runS ⟨left, right, bell⟩ s' (xs.drop (k + 1))).1) := Lib.hid (by rw [e1.out, runS_go hxs.out ha])
          have hq2 : Hid (E = (done ++ [ev]) ++ evs ⟨left, right, bell⟩ s' (xs.drop (k + 1))) := Lib.hid (by rw [e2.out, evs_go hxs.out ha, hev]; simp)
          have hf2 := Lib.hid (hfin.out s s' _ k hfk ha)
          clear ha hev
          replace hM2 := Lib.hid hM2
          go_wp2_with (at_builtin; refine wpList_append_own _ rfl _ _ 62 rfl w.heap.size 68 i0 _ 4 32 Tryd.underlying62 hi hz0 hz1 hz2 rfl (by decide) _ _ _ rfl ((hrow2.alloc _).alloc _) ⟨w2.heap.size + 1, 0, none⟩ 1 1 [.int .i64 ev.place, .string ev.letter, .bool ev.rung, .bool false] rfl rfl ?a11 ?b11 ?c11 ?d11 ?e11 ?_)
          case a11 =>
            intro j u hj
            match j, hj with
            | 0, hj => cases hj; exact cell_new (by simp [Addr.add]) rfl
            | 1, hj => cases hj; exact cell_new (by simp [Addr.add]) rfl
            | 2, hj => cases hj; exact cell_new (by simp [Addr.add]) rfl
            | 3, hj => cases hj; exact cell_new (by simp [Addr.add]) rfl
            | j + 4, hj => simp at hj
          case b11 =>
            intro u hu
            simp only [List.mem_cons, List.not_mem_nil, or_false] at hu
            rcases hu with rfl | rfl | rfl | rfl <;> rfl
          case c11 => unfold maxLen; omega
          case d11 => omega
          case e11 =>
            simp
            omega
          intro v' w3 hown3 hgr3 hnil
          have hgr := grown_trans (grown_below (below_a2 w2 _ _) _) hgr3
          have x3 : w3.cell? ⟨w2.heap.size, 3, none⟩ = some (.bool false) := hgr3.cell (cell_on (cell_new rfl rfl) _) (owns_old hrow2)
          have hM3 := hM2.out.grown hgr (owns_apart hrow2 hM2.out.row.choose_spec (by decide))
          have hB3 := Lib.hid (hbw2.out.grown hgr hz2b (fun j hj => owns_ge hrow2 hj))
          have hz3b := hgr.size
          have hown4 : w3.ownsRow w.heap.size 68 4 v' (k + 1) ((done ++ [ev]).flatMap EvD.cells) := by rw [ev_snoc, hsf]; exact hown3
          have hfin4 := Lib.hid hown4
          have hM4 := Lib.hid hM3
          have hdl' : Hid ((done ++ [ev]).length = k + 1) := Lib.hid (by simp [hdl])
          clear hown3 hgr3 hnil hgr hrow2 hown4 hM3 hdl
          go_wp2
          go_roundw
          case rel => exact ⟨k + 1, s', done ++ [ev], by omega, by go_num, hB3.out, hM4.out, hf2.out, hdl'.out, hfin4.out, hq1.out, hq2.out⟩
          case measure => simp [intOf]; omega
    · obtain rfl : k = n := by omega
      have hq1 : Hid (p1 = s) := Lib.hid (by rw [e1.out, runS_end h.1])
      have hq2 : Hid (E = done) := Lib.hid (by rw [e2.out, evs_end h.1]; simp)
      obtain ⟨A', c', rfl, hO⟩ := owns_evs hdl hrow
      have hO2 := Lib.hid hO
      obtain ⟨d0, d1, d2, d3, d4⟩ := hM.cells
      clear hO hrow hM
      go_wp2_with fail
      go_quiet (fail)
      go_wp2
      go_ret2
      obtain rfl := hq1.out
      obtain rfl := hq2.out
      exact ⟨A', k, c', rfl, by omega, hO2.out, below_drewN hbw _⟩
end Go.Proofs.YtiopeheockajaaaDoor
