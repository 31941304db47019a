/- What stands on a line that is drawn. -/
import Derived.Test.YtphhpmnigchooaaDraw4d
import Derived.Test.YtphhpmnigchooaaMach6
namespace Go.Proofs.Ytphhpmnigchooaa
open Go.RowKit
set_option linter.unusedVariables false
set_option linter.unusedSimpArgs false

theorem owns_acts {w : World} {base n : Nat} {A : Option Addr} {c : Nat} {xs : List ActD} (h : w.ownsRow base 57 2 (.slice A n c) n (xs.flatMap ActD.cells)) (hl : xs.length = n) : Acts w A n xs := by
  subst hl
  obtain ⟨A', c', e, hO⟩ := ORow.of_owns (cells := ActD.cells) (fun _ => rfl) h
  cases e
  exact hO.srow
theorem owns_ends {w : World} {base n size : Nat} {E : TypeId} {v : Value} {vs : List Value} {A : Option Addr} {m c : Nat} (h : w.ownsRow base E size v n vs) (hv : v = .slice A m c) : m = n ∧ n ≤ c := by
  obtain ⟨_, ⟨rfl, h0⟩ | ⟨g, cap, cur, rfl, _, _, hc, _⟩⟩ := h
  · cases hv; exact ⟨h0.symm, by omega⟩
  · cases hv; exact ⟨rfl, hc⟩

theorem SRow_len {α : Type} {size : Nat} {cells : α → List Value} {w : World} {A : Option Addr} {n : Nat} {xs : List α} (h : SRow size cells w A n xs) : xs.length = n := h.1
set_option maxRecDepth 100000 in
set_option maxHeartbeats 8000000 in
theorem drawStruck_any (A : Option Addr) (n c : Nat) (xs : List Int) (w : World) (hn : n ≤ maxLen) (h : Bytes w A n xs) (hg : ∀ x ∈ xs, byteGood x) :
    Calls Try.prog 16 #[.slice A n c] w (DSOut w.heap.size w) := by
  obtain ⟨i0, hi, hz0', hz1', hz2'⟩ := info_parts Try.infoAct4
  obtain ⟨j0, hj, hy0', hy1', hy2'⟩ := info_parts Try.infoStruck4
  have hZ0 := CRow.new w 0 0 0
  have hb0 := below_a1 w (.cells #[.int .i64 0, .int .i64 0, .int .i64 0] 25)
  have hfr := Lib.hid (from_any A n c xs _ hn (h.below hb0) hg)
  go_enter Try.func16, Try.ntmps16
  go_wp2_with fail
  have hz0 := hZ0.lt
  generalize w.alloc (.cells #[.int .i64 0, .int .i64 0, .int .i64 0] 25) = w0 at *
  generalize hZ : w.heap.size = Z at *
  refine hfr.out.mono ?_
  rintro e w1 ⟨rfl, hs1, hb1⟩
  have hZ1 := hZ0.below hb1
  have hd1 : Below Z w w1 := hb0.trans (hb1.mono (by omega))
  have hr1 := hs1.lt
  generalize w0.heap.size = r at *
  have hld := Lib.hid (l04draw_any r 0 w1 hs1 (by omega))
  go_wp2_with fail
  refine hld.out.mono ?_
  rintro e w2 ⟨b, rfl, hbg, hs2, hdr⟩
  have hZ2 := hZ1.block (hdr.block Z hZ1.lt (by omega))
  have hd2 : Below Z w w2 := hd1.trans ⟨hdr.os, hdr.tape, hdr.output, hdr.size, fun k hk => hdr.block k (by have := hZ1.lt; omega) (by omega)⟩
  have hr2 := hs2.lt
  have hC3 := CRow.new w2 b.left b.right b.bell
  have hb3 := below_a1 w2 (.cells #[.int .i64 b.left, .int .i64 b.right, .int .i64 b.bell] 25)
  go_wp2_with fail
  generalize w2.alloc (.cells #[.int .i64 b.left, .int .i64 b.right, .int .i64 b.bell] 25) = w3 at *
  have hD3 : DS w Z r w2.heap.size b 10 w3 := ⟨hs2.below hb3, hZ2.below hb3, hC3, hd2.trans (hb3.mono (by have := hZ2.lt; omega)), hz0, hr2⟩
  generalize w2.heap.size = Q at *
  clear hfr hld hb0 hZ0 hZ1 hd1 hr1 hs1 hb1 hZ2 hd2 hs2 hdr hC3 hb3 hr2 hz0
  have hQ3 := hD3.ltQ
  refine (l04acts_any r 10 w3 hD3.src (by omega)).mono ?_
  rintro e w4 ⟨Ay, ny, cy, ys, rfl, hny, hcy, hrow4, hlen4, hyd4, hs4, hdr4⟩
  have hD4 := hD3.drawn hs4 hdr4
  have hy4 := owns_acts hrow4 hlen4
  have hneA : ∀ p, Ay = some p → p.block ≠ r := fun p hp => by
    subst hp
    have h1 := act_base hrow4 p.block rfl
    have h2 := hD3.lt2
    omega
  have ho4 := Lib.hid (one_any r 1310 3 w4 hD4.src (by omega) (by omega))
  have hltA : ∀ p, Ay = some p → p.block < w4.heap.size := fun p hp => by
    subst hp
    exact (World.ownsRow.lt hrow4 _ rfl).2
  clear hrow4 hs4 hdr4
  go_wp2_with fail
  refine ho4.out.mono ?_
  rintro e w5 ⟨b5, rfl, hs5, hg5⟩
  have hD5 := hD4.pick hs5 hg5
  have hne4 := hneA
  have hy5 : Acts w5 Ay ny ys := SRow.kept (B := some ⟨r, 0, none⟩) hy4 hg5 (fun p q e1 e2 => by cases e2; exact hne4 p e1)
  have hlt5 : ∀ p, Ay = some p → p.block < w5.heap.size := fun p hp => Nat.lt_of_lt_of_le (hltA p hp) hg5.size
  replace hyd4 := Lib.hid hyd4
  clear hy4 ho4 hs5 hg5 hD4
  cases b5 with
  | true =>
    have hWQ := hD5.ltQ
    have hem := empty_row w5 w5.heap.size 57 (Nat.le_refl _)
    have hbe := below_a1 w5 (.cells #[] 57)
    have hDe := hD5.below hbe
    have hye := hy5.below hbe
    have hBe := hbe.size
    go_wp2
    generalize w5.alloc (.cells #[] 57) = we at *
    generalize w5.heap.size = B at *
    clear hbe hD5 hy5
    go_loopw [7, 8] (fun v kv wr => ∃ (k : Nat) (L : List ActD), k ≤ ny ∧ kv = .int .i64 (k : Int) ∧ L.length ≤ k ∧ (∀ x ∈ L, actD x) ∧ wr.ownsRow B 57 2 v L.length (L.flatMap ActD.cells) ∧ DS w Z r Q b 1312 wr ∧ Acts wr Ay ny ys ∧ B ≤ wr.heap.size) (fun _ kv _ => ny - (intOf kv).toNat)
    case atStart => exact ⟨0, [], by omega, rfl, by simp, (fun _ h => by cases h), hem, hDe, hye, hBe⟩
    case round =>
      rename World => wr
      obtain ⟨k, L, hk, rfl, hLk, hLg, hrow, hD, hyr, hBw⟩ := hrel
      replace hLg := Lib.hid hLg
      by_cases hlt : k < ny
      · obtain ⟨a1, o1, x, hAe, ha1, hx, x0, x1⟩ := act_at hyr hlt
        have hxd := hyd4.out x (List.mem_of_getElem? hx.out)
        have hk0 : (0 : Int) ≤ (k : Int) := Int.natCast_nonneg _
        have hk1 : (k : Int) < (ny : Int) := by omega
        have gk : decide ((k : Int) < (ny : Int)) = true := decide_eq_true hk1
        clear hx
        subst hAe
        cases hq0 : (x.kind == 0) with
        | true =>
          have hWQ9 := DS.ltQ hD
          have h63 : L.length + 1 ≤ maxLen := by unfold maxLen; omega
          have hby : (L.length + 1) * 24 ≤ 140737488355328 := by omega
          go_wp2_with (at_builtin; refine wpList_append_own _ rfl _ _ 54 rfl B 57 i0 _ 2 24 Try.underlying54 hi hz0' hz1' hz2' rfl (by decide) _ _ _ rfl (World.ownsRow.alloc hrow _) ⟨World.heap wr |>.size, 0, none⟩ 1 1 [.int .i64 x.kind, .string x.letter] rfl rfl ?a1 ?b1 h63 hby ?e1 ?_)
          case a1 =>
            intro i u hi
            match i, hi with
            | 0, hi => cases hi; exact cell_new (by simp [Addr.add]) rfl
            | 1, hi => cases hi; exact cell_new (by simp [Addr.add]) rfl
            | i + 2, hi => simp at hi
          case b1 =>
            intro u hu
            simp only [List.mem_cons, List.not_mem_nil, or_false] at hu
            rcases hu with rfl | rfl <;> rfl
          case e1 => simp; omega
          intro v' w9 hown9 hgr9 hnil
          have hgA := grown_trans (grown_below (below_a1 wr _) _) hgr9
          have hD9 := DS.youngO hD hgA (fun q hq => by have := act_base hrow q hq; omega)
          have hrow9 : w9.ownsRow B 57 2 v' (L ++ [(⟨x.kind, x.letter⟩ : ActD)]).length ((L ++ [(⟨x.kind, x.letter⟩ : ActD)]).flatMap ActD.cells) := by
            rw [acts_snoc4, List.length_append]
            exact hown9
          have hgd9 := Lib.hid (add_actD hLg.out (y := ⟨x.kind, x.letter⟩) hxd)
          have hsz9 := hgA.size
          have hy9 := SRow.youngR hyr hgA (fun p hp e => by have h1 := hlt5 p hp; have h2 := act_base hrow _ e; omega)
          have hln : (L ++ [(⟨x.kind, x.letter⟩ : ActD)]).length = L.length + 1 := by simp
          replace hrow9 := Lib.hid hrow9
          clear hown9 hgr9 hnil hgA hrow hD x0 x1
          go_wp2
          go_roundw
          case rel => exact ⟨k + 1, _, by omega, by go_num, by rw [hln]; omega, hgd9.out, hrow9.out, hD9, hy9, Nat.le_trans hBw hsz9⟩
          case measure => simp [intOf]; omega
        | false =>
          cases hq1 : (x.kind == 1) with
          | true =>
            have hWQ9 := DS.ltQ hD
            have h63 : L.length + 1 ≤ maxLen := by unfold maxLen; omega
            have hby : (L.length + 1) * 24 ≤ 140737488355328 := by omega
            go_wp2_with (at_builtin; refine wpList_append_own _ rfl _ _ 54 rfl B 57 i0 _ 2 24 Try.underlying54 hi hz0' hz1' hz2' rfl (by decide) _ _ _ rfl (World.ownsRow.alloc hrow _) ⟨World.heap wr |>.size, 0, none⟩ 1 1 [.int .i64 x.kind, .string x.letter] rfl rfl ?a1 ?b1 h63 hby ?e1 ?_)
            case a1 =>
              intro i u hi
              match i, hi with
              | 0, hi => cases hi; exact cell_new (by simp [Addr.add]) rfl
              | 1, hi => cases hi; exact cell_new (by simp [Addr.add]) rfl
              | i + 2, hi => simp at hi
            case b1 =>
              intro u hu
              simp only [List.mem_cons, List.not_mem_nil, or_false] at hu
              rcases hu with rfl | rfl <;> rfl
            case e1 => simp; omega
            intro v' w9 hown9 hgr9 hnil
            have hgA := grown_trans (grown_below (below_a1 wr _) _) hgr9
            have hD9 := DS.youngO hD hgA (fun q hq => by have := act_base hrow q hq; omega)
            have hrow9 : w9.ownsRow B 57 2 v' (L ++ [(⟨x.kind, x.letter⟩ : ActD)]).length ((L ++ [(⟨x.kind, x.letter⟩ : ActD)]).flatMap ActD.cells) := by
              rw [acts_snoc4, List.length_append]
              exact hown9
            have hgd9 := Lib.hid (add_actD hLg.out (y := ⟨x.kind, x.letter⟩) hxd)
            have hsz9 := hgA.size
            have hy9 := SRow.youngR hyr hgA (fun p hp e => by have h1 := hlt5 p hp; have h2 := act_base hrow _ e; omega)
            have hln : (L ++ [(⟨x.kind, x.letter⟩ : ActD)]).length = L.length + 1 := by simp
            replace hrow9 := Lib.hid hrow9
            clear hown9 hgr9 hnil hgA hrow hD x0 x1
            go_wp2
            go_roundw
            case rel => exact ⟨k + 1, _, by omega, by go_num, by rw [hln]; omega, hgd9.out, hrow9.out, hD9, hy9, Nat.le_trans hBw hsz9⟩
            case measure => simp [intOf]; omega
          | false =>
            go_wp2
            go_roundw
            case rel => exact ⟨k + 1, L, by omega, by go_num, by omega, hLg.out, hrow, hD, hyr, hBw⟩
            case measure => simp [intOf]; omega
      · obtain rfl : k = ny := by omega
        have gk : decide ((k : Int) < (k : Int)) = false := decide_eq_false (by omega)
        obtain ⟨Aa, ca, hvv⟩ := owns_slice hrow
        subst hvv
        have hya := owns_acts hrow rfl
        clear hrow hyr hlt5 hltA hneA hne4
        obtain ⟨ya, hyL⟩ : ∃ ya, ya = L := ⟨_, rfl⟩
        subst hyL
        have hgd : ∀ x ∈ ya, x.good := fun x hx => actD.good (hLg.out x hx)
        have hty := typed_strD (c := b) (l := ya) hLg.out
        rw [SRow_len hya] at hty
        obtain ⟨g0, g1, g2⟩ := (DS.cq hD).cells
        have hWQ := (DS.ltQ hD)
        go_wp2_with fail
        refine (typed_specW b Aa ya.length ca ya wr hbg hya (by omega) hgd).mono ?_
        rintro e wt ⟨At, nt, ct, rfl, hnt, hrt, hlnt, hbt⟩
        have hDt := DS.below hD hbt
        have hrt' := owns_mono (b' := Q + 1) (by omega) hrt
        subst hlnt
        generalize (typed b ya).2.1 = tp at *
        generalize (typed b ya).2.2 = bad at *
        generalize (typed b ya).1 = L at *
        generalize Value.slice At L.length ct = vL at *
        clear hrt hbt hgd g0 g1 g2 hnt
        by_cases hbad : bad = 0
        · have gb : (bad != 0) = false := by rw [hbad]; rfl
          clear hbad
          have hp := Lib.hid (pick_any r 1312 16 wt hDt.src (by omega) (by omega))
          go_wp2_with fail
          refine hp.out.mono ?_
          rintro e wp ⟨x, rfl, xa, xb, _, hsp, hgp⟩
          have hlq := hDt.lt2
          have hDp := hDt.pick hsp hgp
          have hrp := owns_past hrt' hgp (by omega)
          have hLl := hty.2
          have hLg := Lib.hid hty.1
          clear hp hsp hgp hDt hrt' hty
          by_cases hx0 : x = 0
          · have g0 : (x == 0) = true := beq_iff_eq.2 hx0
            clear hx0
            have hbS := below_a1 wp (.cells (List.map (fun x => Value.int .i64 x) [-1, 0, 300, 301]).toArray 2)
            have hSl := ints_lit wp [-1, 0, 300, 301] 2 4 rfl
            have hDS := hDp.below hbS
            have hrS := owns_still hrp hbS
            have hlq := hDp.lt2
            have hlQ := hDp.ltQ
            go_wp2_with fail
            refine (among_any r 1314 (some ⟨wp.heap.size, 0, none⟩) 4 4 [-1, 0, 300, 301] _ hDS.src (by omega) hSl (by omega) (by omega) (fun p hp => by cases hp; simp only; omega)).mono ?_
            rintro e wc ⟨y, hy, rfl, hsc, hgc⟩
            have hDc := hDS.pick hsc hgc
            have hrc := owns_past hrS hgc (by omega)
            have hyb : -1 ≤ y ∧ y ≤ 301 := by simp only [List.mem_cons, List.not_mem_nil, or_false] at hy; omega
            clear hy hSl hbS hDS hrS hsc hgc hrp hDp
            have hWQ9 := DS.ltQ hDc
            have h63 : L.length + 1 ≤ maxLen := by unfold maxLen; omega
            have hby : (L.length + 1) * 24 ≤ 140737488355328 := by omega
            go_wp2_with (at_builtin; refine wpList_append_own _ rfl _ _ 26 rfl (Q + 1) 41 j0 _ 2 24 Try.underlying26 hj hy0' hy1' hy2' rfl (by decide) _ _ _ rfl (World.ownsRow.alloc hrc _) ⟨World.heap wc |>.size, 0, none⟩ 1 1 [.int .i64 y, .string ⟨#[120]⟩] rfl rfl ?a1 ?b1 h63 hby ?e1 ?_)
            case a1 =>
              intro i u hi
              match i, hi with
              | 0, hi => cases hi; exact cell_new (by simp [Addr.add]) rfl
              | 1, hi => cases hi; exact cell_new (by simp [Addr.add]) rfl
              | i + 2, hi => simp at hi
            case b1 =>
              intro u hu
              simp only [List.mem_cons, List.not_mem_nil, or_false] at hu
              rcases hu with rfl | rfl <;> rfl
            case e1 => simp; omega
            intro v' w9 hown9 hgr9 hnil
            have hgA := grown_trans (grown_below (below_a1 wc _) _) hgr9
            have hD9 := DS.youngO hDc hgA (fun q hq => by have := act_base hrc q hq; omega)
            have hrow9 : w9.ownsRow (Q + 1) 41 2 v' (L ++ [(⟨y, ⟨#[120]⟩⟩ : StruckD)]).length ((L ++ [(⟨y, ⟨#[120]⟩⟩ : StruckD)]).flatMap StruckD.cells) := by
              rw [st_snoc4, List.length_append]
              exact hown9
            have hgd9 := Lib.hid (add_strD hLg.out (y := ⟨y, ⟨#[120]⟩⟩) ⟨wf64 (by simp only; omega), Nat.le_succ 1⟩)
            clear hown9 hgr9 hnil hgA hrc
            obtain ⟨A9, c9, hv9⟩ := owns_slice hrow9
            subst hv9
            obtain ⟨_, hc9⟩ := owns_ends hrow9 rfl
            obtain ⟨g0, g1, g2⟩ := (DS.cq hD9).cells
            obtain ⟨e0, e1, e2⟩ := (DS.cz hD9).cells
            have f0 := (DS.cz hD9).frozen 0
            have f1 := (DS.cz hD9).frozen 1
            have f2 := (DS.cz hD9).frozen 2
            have hgf := grown_put3 w9 Z (.int .i64 b.left) (.int .i64 b.right) (.int .i64 b.bell)
            have hZf := (DS.cz hD9).put3 b.left b.right b.bell
            have hZl := (DS.cz hD9).lt
            have hlt1 := (DS.lt1 hD9)
            have hlt2 := (DS.lt2 hD9)
            have hrf := owns_mono (b' := Z + 1) (by omega) (owns_past hrow9 hgf (by omega))
            have hdf : Below Z w (((w9.setCell ⟨Z, 0, none⟩ (.int .i64 b.left)).setCell ⟨Z, 1, none⟩ (.int .i64 b.right)).setCell ⟨Z, 2, none⟩ (.int .i64 b.bell)) := ⟨hgf.os.trans (DS.bel hD9).os, hgf.tape.trans (DS.bel hD9).tape, hgf.output.trans (DS.bel hD9).output, Nat.le_trans (DS.bel hD9).size hgf.size, fun k hk => (hgf.block k (by omega) (fun e => by cases e; omega)).trans ((DS.bel hD9).block k hk)⟩
            obtain ⟨z0, z1, z2⟩ := hZf.cells
            have hout : DSOut Z w (.returned (.tuple #[.agg #[.int .i64 b.left, .int .i64 b.right, .int .i64 b.bell], .slice A9 (L ++ [(⟨y, ⟨#[120]⟩⟩ : StruckD)]).length c9])) (((w9.setCell ⟨Z, 0, none⟩ (.int .i64 b.left)).setCell ⟨Z, 1, none⟩ (.int .i64 b.right)).setCell ⟨Z, 2, none⟩ (.int .i64 b.bell)) := by
              unfold DSOut
              exact ⟨b, A9, _, c9, _, rfl, hbg, by (try simp only [List.length_append, List.length_cons, List.length_nil]); omega, hc9, hrf, rfl, hgd9.out, hdf⟩
            replace hout := Lib.hid hout
            clear hrf hdf hZf hgf
            go_wp2
            (try simp only [Exit.inBlock, Exit.then])
            generalize ((w9.setCell ⟨Z, 0, none⟩ (.int .i64 b.left)).setCell ⟨Z, 1, none⟩ (.int .i64 b.right)).setCell ⟨Z, 2, none⟩ (.int .i64 b.bell) = wf at *
            exact bodyPost_ret (v := .tuple #[.agg #[.int .i64 b.left, .int .i64 b.right, .int .i64 b.bell], .slice A9 (L ++ [(⟨y, ⟨#[120]⟩⟩ : StruckD)]).length c9]) (by simp [results, Try.results16, go_sem, z0, z1, z2]) rfl hout.out
          · have g0 : (x == 0) = false := beq_eq_false_iff_ne.2 hx0
            clear hx0
            by_cases hx1 : x = 1
            · have g1 : (x == 1) = true := beq_iff_eq.2 hx1
              clear hx1
              have hbS := below_a1 wp (.cells (List.map Value.string [⟨#[]⟩, ⟨#[120]⟩, ⟨#[32, 32]⟩]).toArray 9)
              have hSl := strs_lit wp [⟨#[]⟩, ⟨#[120]⟩, ⟨#[32, 32]⟩] 9 3 rfl
              have hDS := hDp.below hbS
              have hrS := owns_still hrp hbS
              have hlq := hDp.lt2
              have hlQ := hDp.ltQ
              go_wp2_with fail
              refine (text_any r 1314 (some ⟨wp.heap.size, 0, none⟩) 3 3 [⟨#[]⟩, ⟨#[120]⟩, ⟨#[32, 32]⟩] _ hDS.src (by omega) hSl (by omega) (by omega) (fun p hp => by cases hp; simp only; omega)).mono ?_
              rintro e wc ⟨y, hy, rfl, hsc, hgc⟩
              have hDc := hDS.pick hsc hgc
              have hrc := owns_past hrS hgc (by omega)
              have hyb : y.size ≤ 2 := by
                simp only [List.mem_cons, List.not_mem_nil, or_false] at hy
                rcases hy with rfl | rfl | rfl <;> decide
              clear hy hSl hbS hDS hrS hsc hgc hrp hDp
              have hWQ9 := DS.ltQ hDc
              have h63 : L.length + 1 ≤ maxLen := by unfold maxLen; omega
              have hby : (L.length + 1) * 24 ≤ 140737488355328 := by omega
              go_wp2_with (at_builtin; refine wpList_append_own _ rfl _ _ 26 rfl (Q + 1) 41 j0 _ 2 24 Try.underlying26 hj hy0' hy1' hy2' rfl (by decide) _ _ _ rfl (World.ownsRow.alloc hrc _) ⟨World.heap wc |>.size, 0, none⟩ 1 1 [.int .i64 0, .string y] rfl rfl ?a1 ?b1 h63 hby ?e1 ?_)
              case a1 =>
                intro i u hi
                match i, hi with
                | 0, hi => cases hi; exact cell_new (by simp [Addr.add]) rfl
                | 1, hi => cases hi; exact cell_new (by simp [Addr.add]) rfl
                | i + 2, hi => simp at hi
              case b1 =>
                intro u hu
                simp only [List.mem_cons, List.not_mem_nil, or_false] at hu
                rcases hu with rfl | rfl <;> rfl
              case e1 => simp; omega
              intro v' w9 hown9 hgr9 hnil
              have hgA := grown_trans (grown_below (below_a1 wc _) _) hgr9
              have hD9 := DS.youngO hDc hgA (fun q hq => by have := act_base hrc q hq; omega)
              have hrow9 : w9.ownsRow (Q + 1) 41 2 v' (L ++ [(⟨0, y⟩ : StruckD)]).length ((L ++ [(⟨0, y⟩ : StruckD)]).flatMap StruckD.cells) := by
                rw [st_snoc4, List.length_append]
                exact hown9
              have hgd9 := Lib.hid (add_strD hLg.out (y := ⟨0, y⟩) ⟨rfl, hyb⟩)
              clear hown9 hgr9 hnil hgA hrc
              obtain ⟨A9, c9, hv9⟩ := owns_slice hrow9
              subst hv9
              obtain ⟨_, hc9⟩ := owns_ends hrow9 rfl
              obtain ⟨g0, g1, g2⟩ := (DS.cq hD9).cells
              obtain ⟨e0, e1, e2⟩ := (DS.cz hD9).cells
              have f0 := (DS.cz hD9).frozen 0
              have f1 := (DS.cz hD9).frozen 1
              have f2 := (DS.cz hD9).frozen 2
              have hgf := grown_put3 w9 Z (.int .i64 b.left) (.int .i64 b.right) (.int .i64 b.bell)
              have hZf := (DS.cz hD9).put3 b.left b.right b.bell
              have hZl := (DS.cz hD9).lt
              have hlt1 := (DS.lt1 hD9)
              have hlt2 := (DS.lt2 hD9)
              have hrf := owns_mono (b' := Z + 1) (by omega) (owns_past hrow9 hgf (by omega))
              have hdf : Below Z w (((w9.setCell ⟨Z, 0, none⟩ (.int .i64 b.left)).setCell ⟨Z, 1, none⟩ (.int .i64 b.right)).setCell ⟨Z, 2, none⟩ (.int .i64 b.bell)) := ⟨hgf.os.trans (DS.bel hD9).os, hgf.tape.trans (DS.bel hD9).tape, hgf.output.trans (DS.bel hD9).output, Nat.le_trans (DS.bel hD9).size hgf.size, fun k hk => (hgf.block k (by omega) (fun e => by cases e; omega)).trans ((DS.bel hD9).block k hk)⟩
              obtain ⟨z0, z1, z2⟩ := hZf.cells
              have hout : DSOut Z w (.returned (.tuple #[.agg #[.int .i64 b.left, .int .i64 b.right, .int .i64 b.bell], .slice A9 (L ++ [(⟨0, y⟩ : StruckD)]).length c9])) (((w9.setCell ⟨Z, 0, none⟩ (.int .i64 b.left)).setCell ⟨Z, 1, none⟩ (.int .i64 b.right)).setCell ⟨Z, 2, none⟩ (.int .i64 b.bell)) := by
                unfold DSOut
                exact ⟨b, A9, _, c9, _, rfl, hbg, by (try simp only [List.length_append, List.length_cons, List.length_nil]); omega, hc9, hrf, rfl, hgd9.out, hdf⟩
              replace hout := Lib.hid hout
              clear hrf hdf hZf hgf
              go_wp2
              (try simp only [Exit.inBlock, Exit.then])
              generalize ((w9.setCell ⟨Z, 0, none⟩ (.int .i64 b.left)).setCell ⟨Z, 1, none⟩ (.int .i64 b.right)).setCell ⟨Z, 2, none⟩ (.int .i64 b.bell) = wf at *
              exact bodyPost_ret (v := .tuple #[.agg #[.int .i64 b.left, .int .i64 b.right, .int .i64 b.bell], .slice A9 (L ++ [(⟨0, y⟩ : StruckD)]).length c9]) (by simp [results, Try.results16, go_sem, z0, z1, z2]) rfl hout.out
            · have g1 : (x == 1) = false := beq_eq_false_iff_ne.2 hx1
              clear hx1
              by_cases hx2 : x = 2
              · have g2 : (x == 2) = true := beq_iff_eq.2 hx2
                clear hx2
                have hlQ := hDp.ltQ
                have hem := empty_row wp (Q + 1) 41 (by omega)
                have hbe := below_a1 wp (.cells #[] 41)
                have hDe := hDp.below hbe
                clear hrp hLg hLl L
                go_wp2_with fail
                generalize wp.alloc (.cells #[] 41) = we at *
                refine (pick_any r 1314 2 we hDe.src (by omega) (by omega)).mono ?_
                rintro e wg ⟨x2, rfl, l2, u2, _, hsg, hgg⟩
                replace u2 := u2 (by omega)
                have hlq := hDp.lt2
                have hDg := hDe.pick hsg hgg
                have hrg := owns_past hem hgg (by omega)
                obtain ⟨m, hm⟩ : ∃ m : Nat, 200 + x2 = (m : Int) := ⟨(200 + x2).toNat, by omega⟩
                have mw : IntKind.i64.wrap (200 + x2) = (m : Int) := by rw [← hm]; exact IntWalk.i64_in _ (by omega)
                have hm1 : m ≤ 201 := by omega
                clear hem hbe hDe hsg hgg
                go_wp2
                go_loopw [9, 12] (fun v kv wr => ∃ (L : List StruckD) (k : Nat), kv = .int .i64 (k : Int) ∧ L.length + k = m ∧ (∀ x ∈ L, strD x) ∧ wr.ownsRow (Q + 1) 41 2 v L.length (L.flatMap StruckD.cells) ∧ DS w Z r Q b 1316 wr) (fun _ kv _ => (intOf kv).toNat)
                case atStart => exact ⟨[], m, rfl, by simp, (fun _ hx => by cases hx), hrg, hDg⟩
                case round =>
                  rename World => wr
                  obtain ⟨L, k, rfl, hLk, hLg, hrow, hD⟩ := hrel
                  replace hLg := Lib.hid hLg
                  by_cases hk : 0 < k
                  · have gk : decide ((0 : Int) < (k : Int)) = true := decide_eq_true (by omega)
                    have hWQ9 := DS.ltQ hD
                    have h63 : L.length + 1 ≤ maxLen := by unfold maxLen; omega
                    have hby : (L.length + 1) * 24 ≤ 140737488355328 := by omega
                    go_wp2_with (at_builtin; refine wpList_append_own _ rfl _ _ 26 rfl (Q + 1) 41 j0 _ 2 24 Try.underlying26 hj hy0' hy1' hy2' rfl (by decide) _ _ _ rfl (World.ownsRow.alloc hrow _) ⟨World.heap wr |>.size, 0, none⟩ 1 1 [.int .i64 (k : Int), .string ⟨#[121]⟩] rfl rfl ?a1 ?b1 h63 hby ?e1 ?_)
                    case a1 =>
                      intro i u hi
                      match i, hi with
                      | 0, hi => cases hi; exact cell_new (by simp [Addr.add]) rfl
                      | 1, hi => cases hi; exact cell_new (by simp [Addr.add]) rfl
                      | i + 2, hi => simp at hi
                    case b1 =>
                      intro u hu
                      simp only [List.mem_cons, List.not_mem_nil, or_false] at hu
                      rcases hu with rfl | rfl <;> rfl
                    case e1 => simp; omega
                    intro v' w9 hown9 hgr9 hnil
                    have hgA := grown_trans (grown_below (below_a1 wr _) _) hgr9
                    have hD9 := DS.youngO hD hgA (fun q hq => by have := act_base hrow q hq; omega)
                    have hrow9 : w9.ownsRow (Q + 1) 41 2 v' (L ++ [(⟨(k : Int), ⟨#[121]⟩⟩ : StruckD)]).length ((L ++ [(⟨(k : Int), ⟨#[121]⟩⟩ : StruckD)]).flatMap StruckD.cells) := by
                      rw [st_snoc4, List.length_append]
                      exact hown9
                    have hgd9 := Lib.hid (add_strD hLg.out (y := ⟨(k : Int), ⟨#[121]⟩⟩) ⟨wf64 (by simp only; omega), Nat.le_succ 1⟩)
                    have hln : (L ++ [(⟨(k : Int), ⟨#[121]⟩⟩ : StruckD)]).length = L.length + 1 := by simp
                    replace hrow9 := Lib.hid hrow9
                    clear hown9 hgr9 hnil hgA hrow hD
                    go_wp2
                    go_roundw
                    case rel => exact ⟨_, k - 1, by rw [Int.natCast_sub (by omega)]; rfl, by rw [hln]; omega, hgd9.out, hrow9.out, hD9⟩
                    case measure => simp [intOf]; omega
                  · obtain rfl : k = 0 := by omega
                    have gk : decide ((0 : Int) < ((0 : Nat) : Int)) = false := rfl
                    obtain ⟨A9, c9, hv9⟩ := owns_slice hrow
                    subst hv9
                    obtain ⟨_, hc9⟩ := owns_ends hrow rfl
                    obtain ⟨g0, g1, g2⟩ := (DS.cq hD).cells
                    obtain ⟨e0, e1, e2⟩ := (DS.cz hD).cells
                    have f0 := (DS.cz hD).frozen 0
                    have f1 := (DS.cz hD).frozen 1
                    have f2 := (DS.cz hD).frozen 2
                    have hgf := grown_put3 wr Z (.int .i64 b.left) (.int .i64 b.right) (.int .i64 b.bell)
                    have hZf := (DS.cz hD).put3 b.left b.right b.bell
                    have hZl := (DS.cz hD).lt
                    have hlt1 := (DS.lt1 hD)
                    have hlt2 := (DS.lt2 hD)
                    have hrf := owns_mono (b' := Z + 1) (by omega) (owns_past hrow hgf (by omega))
                    have hdf : Below Z w (((wr.setCell ⟨Z, 0, none⟩ (.int .i64 b.left)).setCell ⟨Z, 1, none⟩ (.int .i64 b.right)).setCell ⟨Z, 2, none⟩ (.int .i64 b.bell)) := ⟨hgf.os.trans (DS.bel hD).os, hgf.tape.trans (DS.bel hD).tape, hgf.output.trans (DS.bel hD).output, Nat.le_trans (DS.bel hD).size hgf.size, fun k hk => (hgf.block k (by omega) (fun e => by cases e; omega)).trans ((DS.bel hD).block k hk)⟩
                    obtain ⟨z0, z1, z2⟩ := hZf.cells
                    have hout : DSOut Z w (.returned (.tuple #[.agg #[.int .i64 b.left, .int .i64 b.right, .int .i64 b.bell], .slice A9 L.length c9])) (((wr.setCell ⟨Z, 0, none⟩ (.int .i64 b.left)).setCell ⟨Z, 1, none⟩ (.int .i64 b.right)).setCell ⟨Z, 2, none⟩ (.int .i64 b.bell)) := by
                      unfold DSOut
                      exact ⟨b, A9, _, c9, L, rfl, hbg, by (try simp only [List.length_append, List.length_cons, List.length_nil]); omega, hc9, hrf, rfl, hLg.out, hdf⟩
                    replace hout := Lib.hid hout
                    clear hrf hdf hZf hgf
                    go_wp2
                    (try simp only [Exit.inBlock, Exit.then])
                    generalize ((wr.setCell ⟨Z, 0, none⟩ (.int .i64 b.left)).setCell ⟨Z, 1, none⟩ (.int .i64 b.right)).setCell ⟨Z, 2, none⟩ (.int .i64 b.bell) = wf at *
                    exact bodyPost_ret (v := .tuple #[.agg #[.int .i64 b.left, .int .i64 b.right, .int .i64 b.bell], .slice A9 L.length c9]) (by simp [results, Try.results16, go_sem, z0, z1, z2]) rfl hout.out
              · have g2 : (x == 2) = false := beq_eq_false_iff_ne.2 hx2
                clear hx2
                obtain ⟨A9, c9, hv9⟩ := owns_slice hrp
                subst hv9
                obtain ⟨_, hc9⟩ := owns_ends hrp rfl
                obtain ⟨g0, g1, g2⟩ := (DS.cq hDp).cells
                obtain ⟨e0, e1, e2⟩ := (DS.cz hDp).cells
                have f0 := (DS.cz hDp).frozen 0
                have f1 := (DS.cz hDp).frozen 1
                have f2 := (DS.cz hDp).frozen 2
                have hgf := grown_put3 wp Z (.int .i64 b.left) (.int .i64 b.right) (.int .i64 b.bell)
                have hZf := (DS.cz hDp).put3 b.left b.right b.bell
                have hZl := (DS.cz hDp).lt
                have hlt1 := (DS.lt1 hDp)
                have hlt2 := (DS.lt2 hDp)
                have hrf := owns_mono (b' := Z + 1) (by omega) (owns_past hrp hgf (by omega))
                have hdf : Below Z w (((wp.setCell ⟨Z, 0, none⟩ (.int .i64 b.left)).setCell ⟨Z, 1, none⟩ (.int .i64 b.right)).setCell ⟨Z, 2, none⟩ (.int .i64 b.bell)) := ⟨hgf.os.trans (DS.bel hDp).os, hgf.tape.trans (DS.bel hDp).tape, hgf.output.trans (DS.bel hDp).output, Nat.le_trans (DS.bel hDp).size hgf.size, fun k hk => (hgf.block k (by omega) (fun e => by cases e; omega)).trans ((DS.bel hDp).block k hk)⟩
                obtain ⟨z0, z1, z2⟩ := hZf.cells
                have hout : DSOut Z w (.returned (.tuple #[.agg #[.int .i64 b.left, .int .i64 b.right, .int .i64 b.bell], .slice A9 L.length c9])) (((wp.setCell ⟨Z, 0, none⟩ (.int .i64 b.left)).setCell ⟨Z, 1, none⟩ (.int .i64 b.right)).setCell ⟨Z, 2, none⟩ (.int .i64 b.bell)) := by
                  unfold DSOut
                  exact ⟨b, A9, _, c9, L, rfl, hbg, by (try simp only [List.length_append, List.length_cons, List.length_nil]); omega, hc9, hrf, rfl, hLg.out, hdf⟩
                replace hout := Lib.hid hout
                clear hrf hdf hZf hgf
                go_wp2
                (try simp only [Exit.inBlock, Exit.then])
                generalize ((wp.setCell ⟨Z, 0, none⟩ (.int .i64 b.left)).setCell ⟨Z, 1, none⟩ (.int .i64 b.right)).setCell ⟨Z, 2, none⟩ (.int .i64 b.bell) = wf at *
                exact bodyPost_ret (v := .tuple #[.agg #[.int .i64 b.left, .int .i64 b.right, .int .i64 b.bell], .slice A9 L.length c9]) (by simp [results, Try.results16, go_sem, z0, z1, z2]) rfl hout.out
        · have gb : (bad != 0) = true := bne_iff_ne.2 hbad
          clear hbad hrt' hty
          have hwQ := hDt.ltQ
          have hem0 := empty_row wt (Q + 1) 41 (by omega)
          have hbe := below_a1 wt (.cells #[] 41)
          have hDe := hDt.below hbe
          obtain ⟨L, hL0⟩ : ∃ L : List StruckD, L = [] := ⟨_, rfl⟩
          have hLl : L.length ≤ ya.length := by rw [hL0]; exact Nat.zero_le _
          have hLg : Hid (∀ x ∈ L, strD x) := Lib.hid (by rw [hL0]; intro x hx; cases hx)
          have hem : (wt.alloc (.cells #[] 41)).ownsRow (Q + 1) 41 2 (.slice (some ⟨wt.heap.size, 0, none⟩) 0 0) L.length (L.flatMap StruckD.cells) := by rw [hL0]; exact hem0
          clear hL0 hem0
          have hp := Lib.hid (pick_any r 1312 16 _ hDe.src (by omega) (by omega))
          go_wp2_with fail
          generalize wt.alloc (.cells #[] 41) = we at *
          generalize Value.slice (some ⟨wt.heap.size, 0, none⟩) 0 0 = vM at *
          refine hp.out.mono ?_
          rintro e wp ⟨x, rfl, xa, xb, _, hsp, hgp⟩
          have hlq := hDe.lt2
          have hDp := hDe.pick hsp hgp
          have hrp := owns_past hem hgp (by omega)
          clear hp hsp hgp hDe hem hDt hbe
          by_cases hx0 : x = 0
          · have g0 : (x == 0) = true := beq_iff_eq.2 hx0
            clear hx0
            have hbS := below_a1 wp (.cells (List.map (fun x => Value.int .i64 x) [-1, 0, 300, 301]).toArray 2)
            have hSl := ints_lit wp [-1, 0, 300, 301] 2 4 rfl
            have hDS := hDp.below hbS
            have hrS := owns_still hrp hbS
            have hlq := hDp.lt2
            have hlQ := hDp.ltQ
            go_wp2_with fail
            refine (among_any r 1314 (some ⟨wp.heap.size, 0, none⟩) 4 4 [-1, 0, 300, 301] _ hDS.src (by omega) hSl (by omega) (by omega) (fun p hp => by cases hp; simp only; omega)).mono ?_
            rintro e wc ⟨y, hy, rfl, hsc, hgc⟩
            have hDc := hDS.pick hsc hgc
            have hrc := owns_past hrS hgc (by omega)
            have hyb : -1 ≤ y ∧ y ≤ 301 := by simp only [List.mem_cons, List.not_mem_nil, or_false] at hy; omega
            clear hy hSl hbS hDS hrS hsc hgc hrp hDp
            have hWQ9 := DS.ltQ hDc
            have h63 : L.length + 1 ≤ maxLen := by unfold maxLen; omega
            have hby : (L.length + 1) * 24 ≤ 140737488355328 := by omega
            go_wp2_with (at_builtin; refine wpList_append_own _ rfl _ _ 26 rfl (Q + 1) 41 j0 _ 2 24 Try.underlying26 hj hy0' hy1' hy2' rfl (by decide) _ _ _ rfl (World.ownsRow.alloc hrc _) ⟨World.heap wc |>.size, 0, none⟩ 1 1 [.int .i64 y, .string ⟨#[120]⟩] rfl rfl ?a1 ?b1 h63 hby ?e1 ?_)
            case a1 =>
              intro i u hi
              match i, hi with
              | 0, hi => cases hi; exact cell_new (by simp [Addr.add]) rfl
              | 1, hi => cases hi; exact cell_new (by simp [Addr.add]) rfl
              | i + 2, hi => simp at hi
            case b1 =>
              intro u hu
              simp only [List.mem_cons, List.not_mem_nil, or_false] at hu
              rcases hu with rfl | rfl <;> rfl
            case e1 => simp; omega
            intro v' w9 hown9 hgr9 hnil
            have hgA := grown_trans (grown_below (below_a1 wc _) _) hgr9
            have hD9 := DS.youngO hDc hgA (fun q hq => by have := act_base hrc q hq; omega)
            have hrow9 : w9.ownsRow (Q + 1) 41 2 v' (L ++ [(⟨y, ⟨#[120]⟩⟩ : StruckD)]).length ((L ++ [(⟨y, ⟨#[120]⟩⟩ : StruckD)]).flatMap StruckD.cells) := by
              rw [st_snoc4, List.length_append]
              exact hown9
            have hgd9 := Lib.hid (add_strD hLg.out (y := ⟨y, ⟨#[120]⟩⟩) ⟨wf64 (by simp only; omega), Nat.le_succ 1⟩)
            clear hown9 hgr9 hnil hgA hrc
            obtain ⟨A9, c9, hv9⟩ := owns_slice hrow9
            subst hv9
            obtain ⟨_, hc9⟩ := owns_ends hrow9 rfl
            obtain ⟨g0, g1, g2⟩ := (DS.cq hD9).cells
            obtain ⟨e0, e1, e2⟩ := (DS.cz hD9).cells
            have f0 := (DS.cz hD9).frozen 0
            have f1 := (DS.cz hD9).frozen 1
            have f2 := (DS.cz hD9).frozen 2
            have hgf := grown_put3 w9 Z (.int .i64 b.left) (.int .i64 b.right) (.int .i64 b.bell)
            have hZf := (DS.cz hD9).put3 b.left b.right b.bell
            have hZl := (DS.cz hD9).lt
            have hlt1 := (DS.lt1 hD9)
            have hlt2 := (DS.lt2 hD9)
            have hrf := owns_mono (b' := Z + 1) (by omega) (owns_past hrow9 hgf (by omega))
            have hdf : Below Z w (((w9.setCell ⟨Z, 0, none⟩ (.int .i64 b.left)).setCell ⟨Z, 1, none⟩ (.int .i64 b.right)).setCell ⟨Z, 2, none⟩ (.int .i64 b.bell)) := ⟨hgf.os.trans (DS.bel hD9).os, hgf.tape.trans (DS.bel hD9).tape, hgf.output.trans (DS.bel hD9).output, Nat.le_trans (DS.bel hD9).size hgf.size, fun k hk => (hgf.block k (by omega) (fun e => by cases e; omega)).trans ((DS.bel hD9).block k hk)⟩
            obtain ⟨z0, z1, z2⟩ := hZf.cells
            have hout : DSOut Z w (.returned (.tuple #[.agg #[.int .i64 b.left, .int .i64 b.right, .int .i64 b.bell], .slice A9 (L ++ [(⟨y, ⟨#[120]⟩⟩ : StruckD)]).length c9])) (((w9.setCell ⟨Z, 0, none⟩ (.int .i64 b.left)).setCell ⟨Z, 1, none⟩ (.int .i64 b.right)).setCell ⟨Z, 2, none⟩ (.int .i64 b.bell)) := by
              unfold DSOut
              exact ⟨b, A9, _, c9, _, rfl, hbg, by (try simp only [List.length_append, List.length_cons, List.length_nil]); omega, hc9, hrf, rfl, hgd9.out, hdf⟩
            replace hout := Lib.hid hout
            clear hrf hdf hZf hgf
            go_wp2
            (try simp only [Exit.inBlock, Exit.then])
            generalize ((w9.setCell ⟨Z, 0, none⟩ (.int .i64 b.left)).setCell ⟨Z, 1, none⟩ (.int .i64 b.right)).setCell ⟨Z, 2, none⟩ (.int .i64 b.bell) = wf at *
            exact bodyPost_ret (v := .tuple #[.agg #[.int .i64 b.left, .int .i64 b.right, .int .i64 b.bell], .slice A9 (L ++ [(⟨y, ⟨#[120]⟩⟩ : StruckD)]).length c9]) (by simp [results, Try.results16, go_sem, z0, z1, z2]) rfl hout.out
          · have g0 : (x == 0) = false := beq_eq_false_iff_ne.2 hx0
            clear hx0
            by_cases hx1 : x = 1
            · have g1 : (x == 1) = true := beq_iff_eq.2 hx1
              clear hx1
              have hbS := below_a1 wp (.cells (List.map Value.string [⟨#[]⟩, ⟨#[120]⟩, ⟨#[32, 32]⟩]).toArray 9)
              have hSl := strs_lit wp [⟨#[]⟩, ⟨#[120]⟩, ⟨#[32, 32]⟩] 9 3 rfl
              have hDS := hDp.below hbS
              have hrS := owns_still hrp hbS
              have hlq := hDp.lt2
              have hlQ := hDp.ltQ
              go_wp2_with fail
              refine (text_any r 1314 (some ⟨wp.heap.size, 0, none⟩) 3 3 [⟨#[]⟩, ⟨#[120]⟩, ⟨#[32, 32]⟩] _ hDS.src (by omega) hSl (by omega) (by omega) (fun p hp => by cases hp; simp only; omega)).mono ?_
              rintro e wc ⟨y, hy, rfl, hsc, hgc⟩
              have hDc := hDS.pick hsc hgc
              have hrc := owns_past hrS hgc (by omega)
              have hyb : y.size ≤ 2 := by
                simp only [List.mem_cons, List.not_mem_nil, or_false] at hy
                rcases hy with rfl | rfl | rfl <;> decide
              clear hy hSl hbS hDS hrS hsc hgc hrp hDp
              have hWQ9 := DS.ltQ hDc
              have h63 : L.length + 1 ≤ maxLen := by unfold maxLen; omega
              have hby : (L.length + 1) * 24 ≤ 140737488355328 := by omega
              go_wp2_with (at_builtin; refine wpList_append_own _ rfl _ _ 26 rfl (Q + 1) 41 j0 _ 2 24 Try.underlying26 hj hy0' hy1' hy2' rfl (by decide) _ _ _ rfl (World.ownsRow.alloc hrc _) ⟨World.heap wc |>.size, 0, none⟩ 1 1 [.int .i64 0, .string y] rfl rfl ?a1 ?b1 h63 hby ?e1 ?_)
              case a1 =>
                intro i u hi
                match i, hi with
                | 0, hi => cases hi; exact cell_new (by simp [Addr.add]) rfl
                | 1, hi => cases hi; exact cell_new (by simp [Addr.add]) rfl
                | i + 2, hi => simp at hi
              case b1 =>
                intro u hu
                simp only [List.mem_cons, List.not_mem_nil, or_false] at hu
                rcases hu with rfl | rfl <;> rfl
              case e1 => simp; omega
              intro v' w9 hown9 hgr9 hnil
              have hgA := grown_trans (grown_below (below_a1 wc _) _) hgr9
              have hD9 := DS.youngO hDc hgA (fun q hq => by have := act_base hrc q hq; omega)
              have hrow9 : w9.ownsRow (Q + 1) 41 2 v' (L ++ [(⟨0, y⟩ : StruckD)]).length ((L ++ [(⟨0, y⟩ : StruckD)]).flatMap StruckD.cells) := by
                rw [st_snoc4, List.length_append]
                exact hown9
              have hgd9 := Lib.hid (add_strD hLg.out (y := ⟨0, y⟩) ⟨rfl, hyb⟩)
              clear hown9 hgr9 hnil hgA hrc
              obtain ⟨A9, c9, hv9⟩ := owns_slice hrow9
              subst hv9
              obtain ⟨_, hc9⟩ := owns_ends hrow9 rfl
              obtain ⟨g0, g1, g2⟩ := (DS.cq hD9).cells
              obtain ⟨e0, e1, e2⟩ := (DS.cz hD9).cells
              have f0 := (DS.cz hD9).frozen 0
              have f1 := (DS.cz hD9).frozen 1
              have f2 := (DS.cz hD9).frozen 2
              have hgf := grown_put3 w9 Z (.int .i64 b.left) (.int .i64 b.right) (.int .i64 b.bell)
              have hZf := (DS.cz hD9).put3 b.left b.right b.bell
              have hZl := (DS.cz hD9).lt
              have hlt1 := (DS.lt1 hD9)
              have hlt2 := (DS.lt2 hD9)
              have hrf := owns_mono (b' := Z + 1) (by omega) (owns_past hrow9 hgf (by omega))
              have hdf : Below Z w (((w9.setCell ⟨Z, 0, none⟩ (.int .i64 b.left)).setCell ⟨Z, 1, none⟩ (.int .i64 b.right)).setCell ⟨Z, 2, none⟩ (.int .i64 b.bell)) := ⟨hgf.os.trans (DS.bel hD9).os, hgf.tape.trans (DS.bel hD9).tape, hgf.output.trans (DS.bel hD9).output, Nat.le_trans (DS.bel hD9).size hgf.size, fun k hk => (hgf.block k (by omega) (fun e => by cases e; omega)).trans ((DS.bel hD9).block k hk)⟩
              obtain ⟨z0, z1, z2⟩ := hZf.cells
              have hout : DSOut Z w (.returned (.tuple #[.agg #[.int .i64 b.left, .int .i64 b.right, .int .i64 b.bell], .slice A9 (L ++ [(⟨0, y⟩ : StruckD)]).length c9])) (((w9.setCell ⟨Z, 0, none⟩ (.int .i64 b.left)).setCell ⟨Z, 1, none⟩ (.int .i64 b.right)).setCell ⟨Z, 2, none⟩ (.int .i64 b.bell)) := by
                unfold DSOut
                exact ⟨b, A9, _, c9, _, rfl, hbg, by (try simp only [List.length_append, List.length_cons, List.length_nil]); omega, hc9, hrf, rfl, hgd9.out, hdf⟩
              replace hout := Lib.hid hout
              clear hrf hdf hZf hgf
              go_wp2
              (try simp only [Exit.inBlock, Exit.then])
              generalize ((w9.setCell ⟨Z, 0, none⟩ (.int .i64 b.left)).setCell ⟨Z, 1, none⟩ (.int .i64 b.right)).setCell ⟨Z, 2, none⟩ (.int .i64 b.bell) = wf at *
              exact bodyPost_ret (v := .tuple #[.agg #[.int .i64 b.left, .int .i64 b.right, .int .i64 b.bell], .slice A9 (L ++ [(⟨0, y⟩ : StruckD)]).length c9]) (by simp [results, Try.results16, go_sem, z0, z1, z2]) rfl hout.out
            · have g1 : (x == 1) = false := beq_eq_false_iff_ne.2 hx1
              clear hx1
              by_cases hx2 : x = 2
              · have g2 : (x == 2) = true := beq_iff_eq.2 hx2
                clear hx2
                have hlQ := hDp.ltQ
                have hem := empty_row wp (Q + 1) 41 (by omega)
                have hbe := below_a1 wp (.cells #[] 41)
                have hDe := hDp.below hbe
                clear hrp hLg hLl L
                go_wp2_with fail
                generalize wp.alloc (.cells #[] 41) = we at *
                refine (pick_any r 1314 2 we hDe.src (by omega) (by omega)).mono ?_
                rintro e wg ⟨x2, rfl, l2, u2, _, hsg, hgg⟩
                replace u2 := u2 (by omega)
                have hlq := hDp.lt2
                have hDg := hDe.pick hsg hgg
                have hrg := owns_past hem hgg (by omega)
                obtain ⟨m, hm⟩ : ∃ m : Nat, 200 + x2 = (m : Int) := ⟨(200 + x2).toNat, by omega⟩
                have mw : IntKind.i64.wrap (200 + x2) = (m : Int) := by rw [← hm]; exact IntWalk.i64_in _ (by omega)
                have hm1 : m ≤ 201 := by omega
                clear hem hbe hDe hsg hgg
                go_wp2
                go_loopw [9, 12] (fun v kv wr => ∃ (L : List StruckD) (k : Nat), kv = .int .i64 (k : Int) ∧ L.length + k = m ∧ (∀ x ∈ L, strD x) ∧ wr.ownsRow (Q + 1) 41 2 v L.length (L.flatMap StruckD.cells) ∧ DS w Z r Q b 1316 wr) (fun _ kv _ => (intOf kv).toNat)
                case atStart => exact ⟨[], m, rfl, by simp, (fun _ hx => by cases hx), hrg, hDg⟩
                case round =>
                  rename World => wr
                  obtain ⟨L, k, rfl, hLk, hLg, hrow, hD⟩ := hrel
                  replace hLg := Lib.hid hLg
                  by_cases hk : 0 < k
                  · have gk : decide ((0 : Int) < (k : Int)) = true := decide_eq_true (by omega)
                    have hWQ9 := DS.ltQ hD
                    have h63 : L.length + 1 ≤ maxLen := by unfold maxLen; omega
                    have hby : (L.length + 1) * 24 ≤ 140737488355328 := by omega
                    go_wp2_with (at_builtin; refine wpList_append_own _ rfl _ _ 26 rfl (Q + 1) 41 j0 _ 2 24 Try.underlying26 hj hy0' hy1' hy2' rfl (by decide) _ _ _ rfl (World.ownsRow.alloc hrow _) ⟨World.heap wr |>.size, 0, none⟩ 1 1 [.int .i64 (k : Int), .string ⟨#[121]⟩] rfl rfl ?a1 ?b1 h63 hby ?e1 ?_)
                    case a1 =>
                      intro i u hi
                      match i, hi with
                      | 0, hi => cases hi; exact cell_new (by simp [Addr.add]) rfl
                      | 1, hi => cases hi; exact cell_new (by simp [Addr.add]) rfl
                      | i + 2, hi => simp at hi
                    case b1 =>
                      intro u hu
                      simp only [List.mem_cons, List.not_mem_nil, or_false] at hu
                      rcases hu with rfl | rfl <;> rfl
                    case e1 => simp; omega
                    intro v' w9 hown9 hgr9 hnil
                    have hgA := grown_trans (grown_below (below_a1 wr _) _) hgr9
                    have hD9 := DS.youngO hD hgA (fun q hq => by have := act_base hrow q hq; omega)
                    have hrow9 : w9.ownsRow (Q + 1) 41 2 v' (L ++ [(⟨(k : Int), ⟨#[121]⟩⟩ : StruckD)]).length ((L ++ [(⟨(k : Int), ⟨#[121]⟩⟩ : StruckD)]).flatMap StruckD.cells) := by
                      rw [st_snoc4, List.length_append]
                      exact hown9
                    have hgd9 := Lib.hid (add_strD hLg.out (y := ⟨(k : Int), ⟨#[121]⟩⟩) ⟨wf64 (by simp only; omega), Nat.le_succ 1⟩)
                    have hln : (L ++ [(⟨(k : Int), ⟨#[121]⟩⟩ : StruckD)]).length = L.length + 1 := by simp
                    replace hrow9 := Lib.hid hrow9
                    clear hown9 hgr9 hnil hgA hrow hD
                    go_wp2
                    go_roundw
                    case rel => exact ⟨_, k - 1, by rw [Int.natCast_sub (by omega)]; rfl, by rw [hln]; omega, hgd9.out, hrow9.out, hD9⟩
                    case measure => simp [intOf]; omega
                  · obtain rfl : k = 0 := by omega
                    have gk : decide ((0 : Int) < ((0 : Nat) : Int)) = false := rfl
                    obtain ⟨A9, c9, hv9⟩ := owns_slice hrow
                    subst hv9
                    obtain ⟨_, hc9⟩ := owns_ends hrow rfl
                    obtain ⟨g0, g1, g2⟩ := (DS.cq hD).cells
                    obtain ⟨e0, e1, e2⟩ := (DS.cz hD).cells
                    have f0 := (DS.cz hD).frozen 0
                    have f1 := (DS.cz hD).frozen 1
                    have f2 := (DS.cz hD).frozen 2
                    have hgf := grown_put3 wr Z (.int .i64 b.left) (.int .i64 b.right) (.int .i64 b.bell)
                    have hZf := (DS.cz hD).put3 b.left b.right b.bell
                    have hZl := (DS.cz hD).lt
                    have hlt1 := (DS.lt1 hD)
                    have hlt2 := (DS.lt2 hD)
                    have hrf := owns_mono (b' := Z + 1) (by omega) (owns_past hrow hgf (by omega))
                    have hdf : Below Z w (((wr.setCell ⟨Z, 0, none⟩ (.int .i64 b.left)).setCell ⟨Z, 1, none⟩ (.int .i64 b.right)).setCell ⟨Z, 2, none⟩ (.int .i64 b.bell)) := ⟨hgf.os.trans (DS.bel hD).os, hgf.tape.trans (DS.bel hD).tape, hgf.output.trans (DS.bel hD).output, Nat.le_trans (DS.bel hD).size hgf.size, fun k hk => (hgf.block k (by omega) (fun e => by cases e; omega)).trans ((DS.bel hD).block k hk)⟩
                    obtain ⟨z0, z1, z2⟩ := hZf.cells
                    have hout : DSOut Z w (.returned (.tuple #[.agg #[.int .i64 b.left, .int .i64 b.right, .int .i64 b.bell], .slice A9 L.length c9])) (((wr.setCell ⟨Z, 0, none⟩ (.int .i64 b.left)).setCell ⟨Z, 1, none⟩ (.int .i64 b.right)).setCell ⟨Z, 2, none⟩ (.int .i64 b.bell)) := by
                      unfold DSOut
                      exact ⟨b, A9, _, c9, L, rfl, hbg, by (try simp only [List.length_append, List.length_cons, List.length_nil]); omega, hc9, hrf, rfl, hLg.out, hdf⟩
                    replace hout := Lib.hid hout
                    clear hrf hdf hZf hgf
                    go_wp2
                    (try simp only [Exit.inBlock, Exit.then])
                    generalize ((wr.setCell ⟨Z, 0, none⟩ (.int .i64 b.left)).setCell ⟨Z, 1, none⟩ (.int .i64 b.right)).setCell ⟨Z, 2, none⟩ (.int .i64 b.bell) = wf at *
                    exact bodyPost_ret (v := .tuple #[.agg #[.int .i64 b.left, .int .i64 b.right, .int .i64 b.bell], .slice A9 L.length c9]) (by simp [results, Try.results16, go_sem, z0, z1, z2]) rfl hout.out
              · have g2 : (x == 2) = false := beq_eq_false_iff_ne.2 hx2
                clear hx2
                obtain ⟨A9, c9, hv9⟩ := owns_slice hrp
                subst hv9
                obtain ⟨_, hc9⟩ := owns_ends hrp rfl
                obtain ⟨g0, g1, g2⟩ := (DS.cq hDp).cells
                obtain ⟨e0, e1, e2⟩ := (DS.cz hDp).cells
                have f0 := (DS.cz hDp).frozen 0
                have f1 := (DS.cz hDp).frozen 1
                have f2 := (DS.cz hDp).frozen 2
                have hgf := grown_put3 wp Z (.int .i64 b.left) (.int .i64 b.right) (.int .i64 b.bell)
                have hZf := (DS.cz hDp).put3 b.left b.right b.bell
                have hZl := (DS.cz hDp).lt
                have hlt1 := (DS.lt1 hDp)
                have hlt2 := (DS.lt2 hDp)
                have hrf := owns_mono (b' := Z + 1) (by omega) (owns_past hrp hgf (by omega))
                have hdf : Below Z w (((wp.setCell ⟨Z, 0, none⟩ (.int .i64 b.left)).setCell ⟨Z, 1, none⟩ (.int .i64 b.right)).setCell ⟨Z, 2, none⟩ (.int .i64 b.bell)) := ⟨hgf.os.trans (DS.bel hDp).os, hgf.tape.trans (DS.bel hDp).tape, hgf.output.trans (DS.bel hDp).output, Nat.le_trans (DS.bel hDp).size hgf.size, fun k hk => (hgf.block k (by omega) (fun e => by cases e; omega)).trans ((DS.bel hDp).block k hk)⟩
                obtain ⟨z0, z1, z2⟩ := hZf.cells
                have hout : DSOut Z w (.returned (.tuple #[.agg #[.int .i64 b.left, .int .i64 b.right, .int .i64 b.bell], .slice A9 L.length c9])) (((wp.setCell ⟨Z, 0, none⟩ (.int .i64 b.left)).setCell ⟨Z, 1, none⟩ (.int .i64 b.right)).setCell ⟨Z, 2, none⟩ (.int .i64 b.bell)) := by
                  unfold DSOut
                  exact ⟨b, A9, _, c9, L, rfl, hbg, by (try simp only [List.length_append, List.length_cons, List.length_nil]); omega, hc9, hrf, rfl, hLg.out, hdf⟩
                replace hout := Lib.hid hout
                clear hrf hdf hZf hgf
                go_wp2
                (try simp only [Exit.inBlock, Exit.then])
                generalize ((wp.setCell ⟨Z, 0, none⟩ (.int .i64 b.left)).setCell ⟨Z, 1, none⟩ (.int .i64 b.right)).setCell ⟨Z, 2, none⟩ (.int .i64 b.bell) = wf at *
                exact bodyPost_ret (v := .tuple #[.agg #[.int .i64 b.left, .int .i64 b.right, .int .i64 b.bell], .slice A9 L.length c9]) (by simp [results, Try.results16, go_sem, z0, z1, z2]) rfl hout.out
  | false =>
    have ya_def := hyd4.out
    obtain ⟨Aa, na, ca, ya, e1, e2, e3, e4⟩ : ∃ Aa na ca ya, Aa = Ay ∧ na = ny ∧ ca = cy ∧ ya = ys := ⟨_, _, _, _, rfl, rfl, rfl, rfl⟩
    subst e1 e2 e3 e4
    have hgd : ∀ x ∈ ya, x.good := fun x hx => actD.good (ya_def x hx)
    have hty := typed_strD (c := b) (l := ya) ya_def
    rw [SRow_len hy5] at hty
    obtain ⟨g0, g1, g2⟩ := (DS.cq hD5).cells
    have hWQ := (DS.ltQ hD5)
    go_wp2_with fail
    refine (typed_specW b Aa na ca ya w5 hbg hy5 (by omega) hgd).mono ?_
    rintro e wt ⟨At, nt, ct, rfl, hnt, hrt, hlnt, hbt⟩
    have hDt := DS.below hD5 hbt
    have hrt' := owns_mono (b' := Q + 1) (by omega) hrt
    subst hlnt
    generalize (typed b ya).2.1 = tp at *
    generalize (typed b ya).2.2 = bad at *
    generalize (typed b ya).1 = L at *
    generalize Value.slice At L.length ct = vL at *
    clear hrt hbt hgd g0 g1 g2 hnt
    by_cases hbad : bad = 0
    · have gb : (bad != 0) = false := by rw [hbad]; rfl
      clear hbad
      have hp := Lib.hid (pick_any r 1312 16 wt hDt.src (by omega) (by omega))
      go_wp2_with fail
      refine hp.out.mono ?_
      rintro e wp ⟨x, rfl, xa, xb, _, hsp, hgp⟩
      have hlq := hDt.lt2
      have hDp := hDt.pick hsp hgp
      have hrp := owns_past hrt' hgp (by omega)
      have hLl := hty.2
      have hLg := Lib.hid hty.1
      clear hp hsp hgp hDt hrt' hty
      by_cases hx0 : x = 0
      · have g0 : (x == 0) = true := beq_iff_eq.2 hx0
        clear hx0
        have hbS := below_a1 wp (.cells (List.map (fun x => Value.int .i64 x) [-1, 0, 300, 301]).toArray 2)
        have hSl := ints_lit wp [-1, 0, 300, 301] 2 4 rfl
        have hDS := hDp.below hbS
        have hrS := owns_still hrp hbS
        have hlq := hDp.lt2
        have hlQ := hDp.ltQ
        go_wp2_with fail
        refine (among_any r 1314 (some ⟨wp.heap.size, 0, none⟩) 4 4 [-1, 0, 300, 301] _ hDS.src (by omega) hSl (by omega) (by omega) (fun p hp => by cases hp; simp only; omega)).mono ?_
        rintro e wc ⟨y, hy, rfl, hsc, hgc⟩
        have hDc := hDS.pick hsc hgc
        have hrc := owns_past hrS hgc (by omega)
        have hyb : -1 ≤ y ∧ y ≤ 301 := by simp only [List.mem_cons, List.not_mem_nil, or_false] at hy; omega
        clear hy hSl hbS hDS hrS hsc hgc hrp hDp
        have hWQ9 := DS.ltQ hDc
        have h63 : L.length + 1 ≤ maxLen := by unfold maxLen; omega
        have hby : (L.length + 1) * 24 ≤ 140737488355328 := by omega
        go_wp2_with (at_builtin; refine wpList_append_own _ rfl _ _ 26 rfl (Q + 1) 41 j0 _ 2 24 Try.underlying26 hj hy0' hy1' hy2' rfl (by decide) _ _ _ rfl (World.ownsRow.alloc hrc _) ⟨World.heap wc |>.size, 0, none⟩ 1 1 [.int .i64 y, .string ⟨#[120]⟩] rfl rfl ?a1 ?b1 h63 hby ?e1 ?_)
        case a1 =>
          intro i u hi
          match i, hi with
          | 0, hi => cases hi; exact cell_new (by simp [Addr.add]) rfl
          | 1, hi => cases hi; exact cell_new (by simp [Addr.add]) rfl
          | i + 2, hi => simp at hi
        case b1 =>
          intro u hu
          simp only [List.mem_cons, List.not_mem_nil, or_false] at hu
          rcases hu with rfl | rfl <;> rfl
        case e1 => simp; omega
        intro v' w9 hown9 hgr9 hnil
        have hgA := grown_trans (grown_below (below_a1 wc _) _) hgr9
        have hD9 := DS.youngO hDc hgA (fun q hq => by have := act_base hrc q hq; omega)
        have hrow9 : w9.ownsRow (Q + 1) 41 2 v' (L ++ [(⟨y, ⟨#[120]⟩⟩ : StruckD)]).length ((L ++ [(⟨y, ⟨#[120]⟩⟩ : StruckD)]).flatMap StruckD.cells) := by
          rw [st_snoc4, List.length_append]
          exact hown9
        have hgd9 := Lib.hid (add_strD hLg.out (y := ⟨y, ⟨#[120]⟩⟩) ⟨wf64 (by simp only; omega), Nat.le_succ 1⟩)
        clear hown9 hgr9 hnil hgA hrc
        obtain ⟨A9, c9, hv9⟩ := owns_slice hrow9
        subst hv9
        obtain ⟨_, hc9⟩ := owns_ends hrow9 rfl
        obtain ⟨g0, g1, g2⟩ := (DS.cq hD9).cells
        obtain ⟨e0, e1, e2⟩ := (DS.cz hD9).cells
        have f0 := (DS.cz hD9).frozen 0
        have f1 := (DS.cz hD9).frozen 1
        have f2 := (DS.cz hD9).frozen 2
        have hgf := grown_put3 w9 Z (.int .i64 b.left) (.int .i64 b.right) (.int .i64 b.bell)
        have hZf := (DS.cz hD9).put3 b.left b.right b.bell
        have hZl := (DS.cz hD9).lt
        have hlt1 := (DS.lt1 hD9)
        have hlt2 := (DS.lt2 hD9)
        have hrf := owns_mono (b' := Z + 1) (by omega) (owns_past hrow9 hgf (by omega))
        have hdf : Below Z w (((w9.setCell ⟨Z, 0, none⟩ (.int .i64 b.left)).setCell ⟨Z, 1, none⟩ (.int .i64 b.right)).setCell ⟨Z, 2, none⟩ (.int .i64 b.bell)) := ⟨hgf.os.trans (DS.bel hD9).os, hgf.tape.trans (DS.bel hD9).tape, hgf.output.trans (DS.bel hD9).output, Nat.le_trans (DS.bel hD9).size hgf.size, fun k hk => (hgf.block k (by omega) (fun e => by cases e; omega)).trans ((DS.bel hD9).block k hk)⟩
        obtain ⟨z0, z1, z2⟩ := hZf.cells
        have hout : DSOut Z w (.returned (.tuple #[.agg #[.int .i64 b.left, .int .i64 b.right, .int .i64 b.bell], .slice A9 (L ++ [(⟨y, ⟨#[120]⟩⟩ : StruckD)]).length c9])) (((w9.setCell ⟨Z, 0, none⟩ (.int .i64 b.left)).setCell ⟨Z, 1, none⟩ (.int .i64 b.right)).setCell ⟨Z, 2, none⟩ (.int .i64 b.bell)) := by
          unfold DSOut
          exact ⟨b, A9, _, c9, _, rfl, hbg, by (try simp only [List.length_append, List.length_cons, List.length_nil]); omega, hc9, hrf, rfl, hgd9.out, hdf⟩
        replace hout := Lib.hid hout
        clear hrf hdf hZf hgf
        go_wp2
        (try simp only [Exit.inBlock, Exit.then])
        generalize ((w9.setCell ⟨Z, 0, none⟩ (.int .i64 b.left)).setCell ⟨Z, 1, none⟩ (.int .i64 b.right)).setCell ⟨Z, 2, none⟩ (.int .i64 b.bell) = wf at *
        exact bodyPost_ret (v := .tuple #[.agg #[.int .i64 b.left, .int .i64 b.right, .int .i64 b.bell], .slice A9 (L ++ [(⟨y, ⟨#[120]⟩⟩ : StruckD)]).length c9]) (by simp [results, Try.results16, go_sem, z0, z1, z2]) rfl hout.out
      · have g0 : (x == 0) = false := beq_eq_false_iff_ne.2 hx0
        clear hx0
        by_cases hx1 : x = 1
        · have g1 : (x == 1) = true := beq_iff_eq.2 hx1
          clear hx1
          have hbS := below_a1 wp (.cells (List.map Value.string [⟨#[]⟩, ⟨#[120]⟩, ⟨#[32, 32]⟩]).toArray 9)
          have hSl := strs_lit wp [⟨#[]⟩, ⟨#[120]⟩, ⟨#[32, 32]⟩] 9 3 rfl
          have hDS := hDp.below hbS
          have hrS := owns_still hrp hbS
          have hlq := hDp.lt2
          have hlQ := hDp.ltQ
          go_wp2_with fail
          refine (text_any r 1314 (some ⟨wp.heap.size, 0, none⟩) 3 3 [⟨#[]⟩, ⟨#[120]⟩, ⟨#[32, 32]⟩] _ hDS.src (by omega) hSl (by omega) (by omega) (fun p hp => by cases hp; simp only; omega)).mono ?_
          rintro e wc ⟨y, hy, rfl, hsc, hgc⟩
          have hDc := hDS.pick hsc hgc
          have hrc := owns_past hrS hgc (by omega)
          have hyb : y.size ≤ 2 := by
            simp only [List.mem_cons, List.not_mem_nil, or_false] at hy
            rcases hy with rfl | rfl | rfl <;> decide
          clear hy hSl hbS hDS hrS hsc hgc hrp hDp
          have hWQ9 := DS.ltQ hDc
          have h63 : L.length + 1 ≤ maxLen := by unfold maxLen; omega
          have hby : (L.length + 1) * 24 ≤ 140737488355328 := by omega
          go_wp2_with (at_builtin; refine wpList_append_own _ rfl _ _ 26 rfl (Q + 1) 41 j0 _ 2 24 Try.underlying26 hj hy0' hy1' hy2' rfl (by decide) _ _ _ rfl (World.ownsRow.alloc hrc _) ⟨World.heap wc |>.size, 0, none⟩ 1 1 [.int .i64 0, .string y] rfl rfl ?a1 ?b1 h63 hby ?e1 ?_)
          case a1 =>
            intro i u hi
            match i, hi with
            | 0, hi => cases hi; exact cell_new (by simp [Addr.add]) rfl
            | 1, hi => cases hi; exact cell_new (by simp [Addr.add]) rfl
            | i + 2, hi => simp at hi
          case b1 =>
            intro u hu
            simp only [List.mem_cons, List.not_mem_nil, or_false] at hu
            rcases hu with rfl | rfl <;> rfl
          case e1 => simp; omega
          intro v' w9 hown9 hgr9 hnil
          have hgA := grown_trans (grown_below (below_a1 wc _) _) hgr9
          have hD9 := DS.youngO hDc hgA (fun q hq => by have := act_base hrc q hq; omega)
          have hrow9 : w9.ownsRow (Q + 1) 41 2 v' (L ++ [(⟨0, y⟩ : StruckD)]).length ((L ++ [(⟨0, y⟩ : StruckD)]).flatMap StruckD.cells) := by
            rw [st_snoc4, List.length_append]
            exact hown9
          have hgd9 := Lib.hid (add_strD hLg.out (y := ⟨0, y⟩) ⟨rfl, hyb⟩)
          clear hown9 hgr9 hnil hgA hrc
          obtain ⟨A9, c9, hv9⟩ := owns_slice hrow9
          subst hv9
          obtain ⟨_, hc9⟩ := owns_ends hrow9 rfl
          obtain ⟨g0, g1, g2⟩ := (DS.cq hD9).cells
          obtain ⟨e0, e1, e2⟩ := (DS.cz hD9).cells
          have f0 := (DS.cz hD9).frozen 0
          have f1 := (DS.cz hD9).frozen 1
          have f2 := (DS.cz hD9).frozen 2
          have hgf := grown_put3 w9 Z (.int .i64 b.left) (.int .i64 b.right) (.int .i64 b.bell)
          have hZf := (DS.cz hD9).put3 b.left b.right b.bell
          have hZl := (DS.cz hD9).lt
          have hlt1 := (DS.lt1 hD9)
          have hlt2 := (DS.lt2 hD9)
          have hrf := owns_mono (b' := Z + 1) (by omega) (owns_past hrow9 hgf (by omega))
          have hdf : Below Z w (((w9.setCell ⟨Z, 0, none⟩ (.int .i64 b.left)).setCell ⟨Z, 1, none⟩ (.int .i64 b.right)).setCell ⟨Z, 2, none⟩ (.int .i64 b.bell)) := ⟨hgf.os.trans (DS.bel hD9).os, hgf.tape.trans (DS.bel hD9).tape, hgf.output.trans (DS.bel hD9).output, Nat.le_trans (DS.bel hD9).size hgf.size, fun k hk => (hgf.block k (by omega) (fun e => by cases e; omega)).trans ((DS.bel hD9).block k hk)⟩
          obtain ⟨z0, z1, z2⟩ := hZf.cells
          have hout : DSOut Z w (.returned (.tuple #[.agg #[.int .i64 b.left, .int .i64 b.right, .int .i64 b.bell], .slice A9 (L ++ [(⟨0, y⟩ : StruckD)]).length c9])) (((w9.setCell ⟨Z, 0, none⟩ (.int .i64 b.left)).setCell ⟨Z, 1, none⟩ (.int .i64 b.right)).setCell ⟨Z, 2, none⟩ (.int .i64 b.bell)) := by
            unfold DSOut
            exact ⟨b, A9, _, c9, _, rfl, hbg, by (try simp only [List.length_append, List.length_cons, List.length_nil]); omega, hc9, hrf, rfl, hgd9.out, hdf⟩
          replace hout := Lib.hid hout
          clear hrf hdf hZf hgf
          go_wp2
          (try simp only [Exit.inBlock, Exit.then])
          generalize ((w9.setCell ⟨Z, 0, none⟩ (.int .i64 b.left)).setCell ⟨Z, 1, none⟩ (.int .i64 b.right)).setCell ⟨Z, 2, none⟩ (.int .i64 b.bell) = wf at *
          exact bodyPost_ret (v := .tuple #[.agg #[.int .i64 b.left, .int .i64 b.right, .int .i64 b.bell], .slice A9 (L ++ [(⟨0, y⟩ : StruckD)]).length c9]) (by simp [results, Try.results16, go_sem, z0, z1, z2]) rfl hout.out
        · have g1 : (x == 1) = false := beq_eq_false_iff_ne.2 hx1
          clear hx1
          by_cases hx2 : x = 2
          · have g2 : (x == 2) = true := beq_iff_eq.2 hx2
            clear hx2
            have hlQ := hDp.ltQ
            have hem := empty_row wp (Q + 1) 41 (by omega)
            have hbe := below_a1 wp (.cells #[] 41)
            have hDe := hDp.below hbe
            clear hrp hLg hLl L
            go_wp2_with fail
            generalize wp.alloc (.cells #[] 41) = we at *
            refine (pick_any r 1314 2 we hDe.src (by omega) (by omega)).mono ?_
            rintro e wg ⟨x2, rfl, l2, u2, _, hsg, hgg⟩
            replace u2 := u2 (by omega)
            have hlq := hDp.lt2
            have hDg := hDe.pick hsg hgg
            have hrg := owns_past hem hgg (by omega)
            obtain ⟨m, hm⟩ : ∃ m : Nat, 200 + x2 = (m : Int) := ⟨(200 + x2).toNat, by omega⟩
            have mw : IntKind.i64.wrap (200 + x2) = (m : Int) := by rw [← hm]; exact IntWalk.i64_in _ (by omega)
            have hm1 : m ≤ 201 := by omega
            clear hem hbe hDe hsg hgg
            go_wp2
            go_loopw [9, 12] (fun v kv wr => ∃ (L : List StruckD) (k : Nat), kv = .int .i64 (k : Int) ∧ L.length + k = m ∧ (∀ x ∈ L, strD x) ∧ wr.ownsRow (Q + 1) 41 2 v L.length (L.flatMap StruckD.cells) ∧ DS w Z r Q b 1316 wr) (fun _ kv _ => (intOf kv).toNat)
            case atStart => exact ⟨[], m, rfl, by simp, (fun _ hx => by cases hx), hrg, hDg⟩
            case round =>
              rename World => wr
              obtain ⟨L, k, rfl, hLk, hLg, hrow, hD⟩ := hrel
              replace hLg := Lib.hid hLg
              by_cases hk : 0 < k
              · have gk : decide ((0 : Int) < (k : Int)) = true := decide_eq_true (by omega)
                have hWQ9 := DS.ltQ hD
                have h63 : L.length + 1 ≤ maxLen := by unfold maxLen; omega
                have hby : (L.length + 1) * 24 ≤ 140737488355328 := by omega
                go_wp2_with (at_builtin; refine wpList_append_own _ rfl _ _ 26 rfl (Q + 1) 41 j0 _ 2 24 Try.underlying26 hj hy0' hy1' hy2' rfl (by decide) _ _ _ rfl (World.ownsRow.alloc hrow _) ⟨World.heap wr |>.size, 0, none⟩ 1 1 [.int .i64 (k : Int), .string ⟨#[121]⟩] rfl rfl ?a1 ?b1 h63 hby ?e1 ?_)
                case a1 =>
                  intro i u hi
                  match i, hi with
                  | 0, hi => cases hi; exact cell_new (by simp [Addr.add]) rfl
                  | 1, hi => cases hi; exact cell_new (by simp [Addr.add]) rfl
                  | i + 2, hi => simp at hi
                case b1 =>
                  intro u hu
                  simp only [List.mem_cons, List.not_mem_nil, or_false] at hu
                  rcases hu with rfl | rfl <;> rfl
                case e1 => simp; omega
                intro v' w9 hown9 hgr9 hnil
                have hgA := grown_trans (grown_below (below_a1 wr _) _) hgr9
                have hD9 := DS.youngO hD hgA (fun q hq => by have := act_base hrow q hq; omega)
                have hrow9 : w9.ownsRow (Q + 1) 41 2 v' (L ++ [(⟨(k : Int), ⟨#[121]⟩⟩ : StruckD)]).length ((L ++ [(⟨(k : Int), ⟨#[121]⟩⟩ : StruckD)]).flatMap StruckD.cells) := by
                  rw [st_snoc4, List.length_append]
                  exact hown9
                have hgd9 := Lib.hid (add_strD hLg.out (y := ⟨(k : Int), ⟨#[121]⟩⟩) ⟨wf64 (by simp only; omega), Nat.le_succ 1⟩)
                have hln : (L ++ [(⟨(k : Int), ⟨#[121]⟩⟩ : StruckD)]).length = L.length + 1 := by simp
                replace hrow9 := Lib.hid hrow9
                clear hown9 hgr9 hnil hgA hrow hD
                go_wp2
                go_roundw
                case rel => exact ⟨_, k - 1, by rw [Int.natCast_sub (by omega)]; rfl, by rw [hln]; omega, hgd9.out, hrow9.out, hD9⟩
                case measure => simp [intOf]; omega
              · obtain rfl : k = 0 := by omega
                have gk : decide ((0 : Int) < ((0 : Nat) : Int)) = false := rfl
                obtain ⟨A9, c9, hv9⟩ := owns_slice hrow
                subst hv9
                obtain ⟨_, hc9⟩ := owns_ends hrow rfl
                obtain ⟨g0, g1, g2⟩ := (DS.cq hD).cells
                obtain ⟨e0, e1, e2⟩ := (DS.cz hD).cells
                have f0 := (DS.cz hD).frozen 0
                have f1 := (DS.cz hD).frozen 1
                have f2 := (DS.cz hD).frozen 2
                have hgf := grown_put3 wr Z (.int .i64 b.left) (.int .i64 b.right) (.int .i64 b.bell)
                have hZf := (DS.cz hD).put3 b.left b.right b.bell
                have hZl := (DS.cz hD).lt
                have hlt1 := (DS.lt1 hD)
                have hlt2 := (DS.lt2 hD)
                have hrf := owns_mono (b' := Z + 1) (by omega) (owns_past hrow hgf (by omega))
                have hdf : Below Z w (((wr.setCell ⟨Z, 0, none⟩ (.int .i64 b.left)).setCell ⟨Z, 1, none⟩ (.int .i64 b.right)).setCell ⟨Z, 2, none⟩ (.int .i64 b.bell)) := ⟨hgf.os.trans (DS.bel hD).os, hgf.tape.trans (DS.bel hD).tape, hgf.output.trans (DS.bel hD).output, Nat.le_trans (DS.bel hD).size hgf.size, fun k hk => (hgf.block k (by omega) (fun e => by cases e; omega)).trans ((DS.bel hD).block k hk)⟩
                obtain ⟨z0, z1, z2⟩ := hZf.cells
                have hout : DSOut Z w (.returned (.tuple #[.agg #[.int .i64 b.left, .int .i64 b.right, .int .i64 b.bell], .slice A9 L.length c9])) (((wr.setCell ⟨Z, 0, none⟩ (.int .i64 b.left)).setCell ⟨Z, 1, none⟩ (.int .i64 b.right)).setCell ⟨Z, 2, none⟩ (.int .i64 b.bell)) := by
                  unfold DSOut
                  exact ⟨b, A9, _, c9, L, rfl, hbg, by (try simp only [List.length_append, List.length_cons, List.length_nil]); omega, hc9, hrf, rfl, hLg.out, hdf⟩
                replace hout := Lib.hid hout
                clear hrf hdf hZf hgf
                go_wp2
                (try simp only [Exit.inBlock, Exit.then])
                generalize ((wr.setCell ⟨Z, 0, none⟩ (.int .i64 b.left)).setCell ⟨Z, 1, none⟩ (.int .i64 b.right)).setCell ⟨Z, 2, none⟩ (.int .i64 b.bell) = wf at *
                exact bodyPost_ret (v := .tuple #[.agg #[.int .i64 b.left, .int .i64 b.right, .int .i64 b.bell], .slice A9 L.length c9]) (by simp [results, Try.results16, go_sem, z0, z1, z2]) rfl hout.out
          · have g2 : (x == 2) = false := beq_eq_false_iff_ne.2 hx2
            clear hx2
            obtain ⟨A9, c9, hv9⟩ := owns_slice hrp
            subst hv9
            obtain ⟨_, hc9⟩ := owns_ends hrp rfl
            obtain ⟨g0, g1, g2⟩ := (DS.cq hDp).cells
            obtain ⟨e0, e1, e2⟩ := (DS.cz hDp).cells
            have f0 := (DS.cz hDp).frozen 0
            have f1 := (DS.cz hDp).frozen 1
            have f2 := (DS.cz hDp).frozen 2
            have hgf := grown_put3 wp Z (.int .i64 b.left) (.int .i64 b.right) (.int .i64 b.bell)
            have hZf := (DS.cz hDp).put3 b.left b.right b.bell
            have hZl := (DS.cz hDp).lt
            have hlt1 := (DS.lt1 hDp)
            have hlt2 := (DS.lt2 hDp)
            have hrf := owns_mono (b' := Z + 1) (by omega) (owns_past hrp hgf (by omega))
            have hdf : Below Z w (((wp.setCell ⟨Z, 0, none⟩ (.int .i64 b.left)).setCell ⟨Z, 1, none⟩ (.int .i64 b.right)).setCell ⟨Z, 2, none⟩ (.int .i64 b.bell)) := ⟨hgf.os.trans (DS.bel hDp).os, hgf.tape.trans (DS.bel hDp).tape, hgf.output.trans (DS.bel hDp).output, Nat.le_trans (DS.bel hDp).size hgf.size, fun k hk => (hgf.block k (by omega) (fun e => by cases e; omega)).trans ((DS.bel hDp).block k hk)⟩
            obtain ⟨z0, z1, z2⟩ := hZf.cells
            have hout : DSOut Z w (.returned (.tuple #[.agg #[.int .i64 b.left, .int .i64 b.right, .int .i64 b.bell], .slice A9 L.length c9])) (((wp.setCell ⟨Z, 0, none⟩ (.int .i64 b.left)).setCell ⟨Z, 1, none⟩ (.int .i64 b.right)).setCell ⟨Z, 2, none⟩ (.int .i64 b.bell)) := by
              unfold DSOut
              exact ⟨b, A9, _, c9, L, rfl, hbg, by (try simp only [List.length_append, List.length_cons, List.length_nil]); omega, hc9, hrf, rfl, hLg.out, hdf⟩
            replace hout := Lib.hid hout
            clear hrf hdf hZf hgf
            go_wp2
            (try simp only [Exit.inBlock, Exit.then])
            generalize ((wp.setCell ⟨Z, 0, none⟩ (.int .i64 b.left)).setCell ⟨Z, 1, none⟩ (.int .i64 b.right)).setCell ⟨Z, 2, none⟩ (.int .i64 b.bell) = wf at *
            exact bodyPost_ret (v := .tuple #[.agg #[.int .i64 b.left, .int .i64 b.right, .int .i64 b.bell], .slice A9 L.length c9]) (by simp [results, Try.results16, go_sem, z0, z1, z2]) rfl hout.out
    · have gb : (bad != 0) = true := bne_iff_ne.2 hbad
      clear hbad hrt' hty
      have hwQ := hDt.ltQ
      have hem0 := empty_row wt (Q + 1) 41 (by omega)
      have hbe := below_a1 wt (.cells #[] 41)
      have hDe := hDt.below hbe
      obtain ⟨L, hL0⟩ : ∃ L : List StruckD, L = [] := ⟨_, rfl⟩
      have hLl : L.length ≤ na := by rw [hL0]; exact Nat.zero_le _
      have hLg : Hid (∀ x ∈ L, strD x) := Lib.hid (by rw [hL0]; intro x hx; cases hx)
      have hem : (wt.alloc (.cells #[] 41)).ownsRow (Q + 1) 41 2 (.slice (some ⟨wt.heap.size, 0, none⟩) 0 0) L.length (L.flatMap StruckD.cells) := by rw [hL0]; exact hem0
      clear hL0 hem0
      have hp := Lib.hid (pick_any r 1312 16 _ hDe.src (by omega) (by omega))
      go_wp2_with fail
      generalize wt.alloc (.cells #[] 41) = we at *
      generalize Value.slice (some ⟨wt.heap.size, 0, none⟩) 0 0 = vM at *
      refine hp.out.mono ?_
      rintro e wp ⟨x, rfl, xa, xb, _, hsp, hgp⟩
      have hlq := hDe.lt2
      have hDp := hDe.pick hsp hgp
      have hrp := owns_past hem hgp (by omega)
      clear hp hsp hgp hDe hem hDt hbe
      by_cases hx0 : x = 0
      · have g0 : (x == 0) = true := beq_iff_eq.2 hx0
        clear hx0
        have hbS := below_a1 wp (.cells (List.map (fun x => Value.int .i64 x) [-1, 0, 300, 301]).toArray 2)
        have hSl := ints_lit wp [-1, 0, 300, 301] 2 4 rfl
        have hDS := hDp.below hbS
        have hrS := owns_still hrp hbS
        have hlq := hDp.lt2
        have hlQ := hDp.ltQ
        go_wp2_with fail
        refine (among_any r 1314 (some ⟨wp.heap.size, 0, none⟩) 4 4 [-1, 0, 300, 301] _ hDS.src (by omega) hSl (by omega) (by omega) (fun p hp => by cases hp; simp only; omega)).mono ?_
        rintro e wc ⟨y, hy, rfl, hsc, hgc⟩
        have hDc := hDS.pick hsc hgc
        have hrc := owns_past hrS hgc (by omega)
        have hyb : -1 ≤ y ∧ y ≤ 301 := by simp only [List.mem_cons, List.not_mem_nil, or_false] at hy; omega
        clear hy hSl hbS hDS hrS hsc hgc hrp hDp
        have hWQ9 := DS.ltQ hDc
        have h63 : L.length + 1 ≤ maxLen := by unfold maxLen; omega
        have hby : (L.length + 1) * 24 ≤ 140737488355328 := by omega
        go_wp2_with (at_builtin; refine wpList_append_own _ rfl _ _ 26 rfl (Q + 1) 41 j0 _ 2 24 Try.underlying26 hj hy0' hy1' hy2' rfl (by decide) _ _ _ rfl (World.ownsRow.alloc hrc _) ⟨World.heap wc |>.size, 0, none⟩ 1 1 [.int .i64 y, .string ⟨#[120]⟩] rfl rfl ?a1 ?b1 h63 hby ?e1 ?_)
        case a1 =>
          intro i u hi
          match i, hi with
          | 0, hi => cases hi; exact cell_new (by simp [Addr.add]) rfl
          | 1, hi => cases hi; exact cell_new (by simp [Addr.add]) rfl
          | i + 2, hi => simp at hi
        case b1 =>
          intro u hu
          simp only [List.mem_cons, List.not_mem_nil, or_false] at hu
          rcases hu with rfl | rfl <;> rfl
        case e1 => simp; omega
        intro v' w9 hown9 hgr9 hnil
        have hgA := grown_trans (grown_below (below_a1 wc _) _) hgr9
        have hD9 := DS.youngO hDc hgA (fun q hq => by have := act_base hrc q hq; omega)
        have hrow9 : w9.ownsRow (Q + 1) 41 2 v' (L ++ [(⟨y, ⟨#[120]⟩⟩ : StruckD)]).length ((L ++ [(⟨y, ⟨#[120]⟩⟩ : StruckD)]).flatMap StruckD.cells) := by
          rw [st_snoc4, List.length_append]
          exact hown9
        have hgd9 := Lib.hid (add_strD hLg.out (y := ⟨y, ⟨#[120]⟩⟩) ⟨wf64 (by simp only; omega), Nat.le_succ 1⟩)
        clear hown9 hgr9 hnil hgA hrc
        obtain ⟨A9, c9, hv9⟩ := owns_slice hrow9
        subst hv9
        obtain ⟨_, hc9⟩ := owns_ends hrow9 rfl
        obtain ⟨g0, g1, g2⟩ := (DS.cq hD9).cells
        obtain ⟨e0, e1, e2⟩ := (DS.cz hD9).cells
        have f0 := (DS.cz hD9).frozen 0
        have f1 := (DS.cz hD9).frozen 1
        have f2 := (DS.cz hD9).frozen 2
        have hgf := grown_put3 w9 Z (.int .i64 b.left) (.int .i64 b.right) (.int .i64 b.bell)
        have hZf := (DS.cz hD9).put3 b.left b.right b.bell
        have hZl := (DS.cz hD9).lt
        have hlt1 := (DS.lt1 hD9)
        have hlt2 := (DS.lt2 hD9)
        have hrf := owns_mono (b' := Z + 1) (by omega) (owns_past hrow9 hgf (by omega))
        have hdf : Below Z w (((w9.setCell ⟨Z, 0, none⟩ (.int .i64 b.left)).setCell ⟨Z, 1, none⟩ (.int .i64 b.right)).setCell ⟨Z, 2, none⟩ (.int .i64 b.bell)) := ⟨hgf.os.trans (DS.bel hD9).os, hgf.tape.trans (DS.bel hD9).tape, hgf.output.trans (DS.bel hD9).output, Nat.le_trans (DS.bel hD9).size hgf.size, fun k hk => (hgf.block k (by omega) (fun e => by cases e; omega)).trans ((DS.bel hD9).block k hk)⟩
        obtain ⟨z0, z1, z2⟩ := hZf.cells
        have hout : DSOut Z w (.returned (.tuple #[.agg #[.int .i64 b.left, .int .i64 b.right, .int .i64 b.bell], .slice A9 (L ++ [(⟨y, ⟨#[120]⟩⟩ : StruckD)]).length c9])) (((w9.setCell ⟨Z, 0, none⟩ (.int .i64 b.left)).setCell ⟨Z, 1, none⟩ (.int .i64 b.right)).setCell ⟨Z, 2, none⟩ (.int .i64 b.bell)) := by
          unfold DSOut
          exact ⟨b, A9, _, c9, _, rfl, hbg, by (try simp only [List.length_append, List.length_cons, List.length_nil]); omega, hc9, hrf, rfl, hgd9.out, hdf⟩
        replace hout := Lib.hid hout
        clear hrf hdf hZf hgf
        go_wp2
        (try simp only [Exit.inBlock, Exit.then])
        generalize ((w9.setCell ⟨Z, 0, none⟩ (.int .i64 b.left)).setCell ⟨Z, 1, none⟩ (.int .i64 b.right)).setCell ⟨Z, 2, none⟩ (.int .i64 b.bell) = wf at *
        exact bodyPost_ret (v := .tuple #[.agg #[.int .i64 b.left, .int .i64 b.right, .int .i64 b.bell], .slice A9 (L ++ [(⟨y, ⟨#[120]⟩⟩ : StruckD)]).length c9]) (by simp [results, Try.results16, go_sem, z0, z1, z2]) rfl hout.out
      · have g0 : (x == 0) = false := beq_eq_false_iff_ne.2 hx0
        clear hx0
        by_cases hx1 : x = 1
        · have g1 : (x == 1) = true := beq_iff_eq.2 hx1
          clear hx1
          have hbS := below_a1 wp (.cells (List.map Value.string [⟨#[]⟩, ⟨#[120]⟩, ⟨#[32, 32]⟩]).toArray 9)
          have hSl := strs_lit wp [⟨#[]⟩, ⟨#[120]⟩, ⟨#[32, 32]⟩] 9 3 rfl
          have hDS := hDp.below hbS
          have hrS := owns_still hrp hbS
          have hlq := hDp.lt2
          have hlQ := hDp.ltQ
          go_wp2_with fail
          refine (text_any r 1314 (some ⟨wp.heap.size, 0, none⟩) 3 3 [⟨#[]⟩, ⟨#[120]⟩, ⟨#[32, 32]⟩] _ hDS.src (by omega) hSl (by omega) (by omega) (fun p hp => by cases hp; simp only; omega)).mono ?_
          rintro e wc ⟨y, hy, rfl, hsc, hgc⟩
          have hDc := hDS.pick hsc hgc
          have hrc := owns_past hrS hgc (by omega)
          have hyb : y.size ≤ 2 := by
            simp only [List.mem_cons, List.not_mem_nil, or_false] at hy
            rcases hy with rfl | rfl | rfl <;> decide
          clear hy hSl hbS hDS hrS hsc hgc hrp hDp
          have hWQ9 := DS.ltQ hDc
          have h63 : L.length + 1 ≤ maxLen := by unfold maxLen; omega
          have hby : (L.length + 1) * 24 ≤ 140737488355328 := by omega
          go_wp2_with (at_builtin; refine wpList_append_own _ rfl _ _ 26 rfl (Q + 1) 41 j0 _ 2 24 Try.underlying26 hj hy0' hy1' hy2' rfl (by decide) _ _ _ rfl (World.ownsRow.alloc hrc _) ⟨World.heap wc |>.size, 0, none⟩ 1 1 [.int .i64 0, .string y] rfl rfl ?a1 ?b1 h63 hby ?e1 ?_)
          case a1 =>
            intro i u hi
            match i, hi with
            | 0, hi => cases hi; exact cell_new (by simp [Addr.add]) rfl
            | 1, hi => cases hi; exact cell_new (by simp [Addr.add]) rfl
            | i + 2, hi => simp at hi
          case b1 =>
            intro u hu
            simp only [List.mem_cons, List.not_mem_nil, or_false] at hu
            rcases hu with rfl | rfl <;> rfl
          case e1 => simp; omega
          intro v' w9 hown9 hgr9 hnil
          have hgA := grown_trans (grown_below (below_a1 wc _) _) hgr9
          have hD9 := DS.youngO hDc hgA (fun q hq => by have := act_base hrc q hq; omega)
          have hrow9 : w9.ownsRow (Q + 1) 41 2 v' (L ++ [(⟨0, y⟩ : StruckD)]).length ((L ++ [(⟨0, y⟩ : StruckD)]).flatMap StruckD.cells) := by
            rw [st_snoc4, List.length_append]
            exact hown9
          have hgd9 := Lib.hid (add_strD hLg.out (y := ⟨0, y⟩) ⟨rfl, hyb⟩)
          clear hown9 hgr9 hnil hgA hrc
          obtain ⟨A9, c9, hv9⟩ := owns_slice hrow9
          subst hv9
          obtain ⟨_, hc9⟩ := owns_ends hrow9 rfl
          obtain ⟨g0, g1, g2⟩ := (DS.cq hD9).cells
          obtain ⟨e0, e1, e2⟩ := (DS.cz hD9).cells
          have f0 := (DS.cz hD9).frozen 0
          have f1 := (DS.cz hD9).frozen 1
          have f2 := (DS.cz hD9).frozen 2
          have hgf := grown_put3 w9 Z (.int .i64 b.left) (.int .i64 b.right) (.int .i64 b.bell)
          have hZf := (DS.cz hD9).put3 b.left b.right b.bell
          have hZl := (DS.cz hD9).lt
          have hlt1 := (DS.lt1 hD9)
          have hlt2 := (DS.lt2 hD9)
          have hrf := owns_mono (b' := Z + 1) (by omega) (owns_past hrow9 hgf (by omega))
          have hdf : Below Z w (((w9.setCell ⟨Z, 0, none⟩ (.int .i64 b.left)).setCell ⟨Z, 1, none⟩ (.int .i64 b.right)).setCell ⟨Z, 2, none⟩ (.int .i64 b.bell)) := ⟨hgf.os.trans (DS.bel hD9).os, hgf.tape.trans (DS.bel hD9).tape, hgf.output.trans (DS.bel hD9).output, Nat.le_trans (DS.bel hD9).size hgf.size, fun k hk => (hgf.block k (by omega) (fun e => by cases e; omega)).trans ((DS.bel hD9).block k hk)⟩
          obtain ⟨z0, z1, z2⟩ := hZf.cells
          have hout : DSOut Z w (.returned (.tuple #[.agg #[.int .i64 b.left, .int .i64 b.right, .int .i64 b.bell], .slice A9 (L ++ [(⟨0, y⟩ : StruckD)]).length c9])) (((w9.setCell ⟨Z, 0, none⟩ (.int .i64 b.left)).setCell ⟨Z, 1, none⟩ (.int .i64 b.right)).setCell ⟨Z, 2, none⟩ (.int .i64 b.bell)) := by
            unfold DSOut
            exact ⟨b, A9, _, c9, _, rfl, hbg, by (try simp only [List.length_append, List.length_cons, List.length_nil]); omega, hc9, hrf, rfl, hgd9.out, hdf⟩
          replace hout := Lib.hid hout
          clear hrf hdf hZf hgf
          go_wp2
          (try simp only [Exit.inBlock, Exit.then])
          generalize ((w9.setCell ⟨Z, 0, none⟩ (.int .i64 b.left)).setCell ⟨Z, 1, none⟩ (.int .i64 b.right)).setCell ⟨Z, 2, none⟩ (.int .i64 b.bell) = wf at *
          exact bodyPost_ret (v := .tuple #[.agg #[.int .i64 b.left, .int .i64 b.right, .int .i64 b.bell], .slice A9 (L ++ [(⟨0, y⟩ : StruckD)]).length c9]) (by simp [results, Try.results16, go_sem, z0, z1, z2]) rfl hout.out
        · have g1 : (x == 1) = false := beq_eq_false_iff_ne.2 hx1
          clear hx1
          by_cases hx2 : x = 2
          · have g2 : (x == 2) = true := beq_iff_eq.2 hx2
            clear hx2
            have hlQ := hDp.ltQ
            have hem := empty_row wp (Q + 1) 41 (by omega)
            have hbe := below_a1 wp (.cells #[] 41)
            have hDe := hDp.below hbe
            clear hrp hLg hLl L
            go_wp2_with fail
            generalize wp.alloc (.cells #[] 41) = we at *
            refine (pick_any r 1314 2 we hDe.src (by omega) (by omega)).mono ?_
            rintro e wg ⟨x2, rfl, l2, u2, _, hsg, hgg⟩
            replace u2 := u2 (by omega)
            have hlq := hDp.lt2
            have hDg := hDe.pick hsg hgg
            have hrg := owns_past hem hgg (by omega)
            obtain ⟨m, hm⟩ : ∃ m : Nat, 200 + x2 = (m : Int) := ⟨(200 + x2).toNat, by omega⟩
            have mw : IntKind.i64.wrap (200 + x2) = (m : Int) := by rw [← hm]; exact IntWalk.i64_in _ (by omega)
            have hm1 : m ≤ 201 := by omega
            clear hem hbe hDe hsg hgg
            go_wp2
            go_loopw [9, 12] (fun v kv wr => ∃ (L : List StruckD) (k : Nat), kv = .int .i64 (k : Int) ∧ L.length + k = m ∧ (∀ x ∈ L, strD x) ∧ wr.ownsRow (Q + 1) 41 2 v L.length (L.flatMap StruckD.cells) ∧ DS w Z r Q b 1316 wr) (fun _ kv _ => (intOf kv).toNat)
            case atStart => exact ⟨[], m, rfl, by simp, (fun _ hx => by cases hx), hrg, hDg⟩
            case round =>
              rename World => wr
              obtain ⟨L, k, rfl, hLk, hLg, hrow, hD⟩ := hrel
              replace hLg := Lib.hid hLg
              by_cases hk : 0 < k
              · have gk : decide ((0 : Int) < (k : Int)) = true := decide_eq_true (by omega)
                have hWQ9 := DS.ltQ hD
                have h63 : L.length + 1 ≤ maxLen := by unfold maxLen; omega
                have hby : (L.length + 1) * 24 ≤ 140737488355328 := by omega
                go_wp2_with (at_builtin; refine wpList_append_own _ rfl _ _ 26 rfl (Q + 1) 41 j0 _ 2 24 Try.underlying26 hj hy0' hy1' hy2' rfl (by decide) _ _ _ rfl (World.ownsRow.alloc hrow _) ⟨World.heap wr |>.size, 0, none⟩ 1 1 [.int .i64 (k : Int), .string ⟨#[121]⟩] rfl rfl ?a1 ?b1 h63 hby ?e1 ?_)
                case a1 =>
                  intro i u hi
                  match i, hi with
                  | 0, hi => cases hi; exact cell_new (by simp [Addr.add]) rfl
                  | 1, hi => cases hi; exact cell_new (by simp [Addr.add]) rfl
                  | i + 2, hi => simp at hi
                case b1 =>
                  intro u hu
                  simp only [List.mem_cons, List.not_mem_nil, or_false] at hu
                  rcases hu with rfl | rfl <;> rfl
                case e1 => simp; omega
                intro v' w9 hown9 hgr9 hnil
                have hgA := grown_trans (grown_below (below_a1 wr _) _) hgr9
                have hD9 := DS.youngO hD hgA (fun q hq => by have := act_base hrow q hq; omega)
                have hrow9 : w9.ownsRow (Q + 1) 41 2 v' (L ++ [(⟨(k : Int), ⟨#[121]⟩⟩ : StruckD)]).length ((L ++ [(⟨(k : Int), ⟨#[121]⟩⟩ : StruckD)]).flatMap StruckD.cells) := by
                  rw [st_snoc4, List.length_append]
                  exact hown9
                have hgd9 := Lib.hid (add_strD hLg.out (y := ⟨(k : Int), ⟨#[121]⟩⟩) ⟨wf64 (by simp only; omega), Nat.le_succ 1⟩)
                have hln : (L ++ [(⟨(k : Int), ⟨#[121]⟩⟩ : StruckD)]).length = L.length + 1 := by simp
                replace hrow9 := Lib.hid hrow9
                clear hown9 hgr9 hnil hgA hrow hD
                go_wp2
                go_roundw
                case rel => exact ⟨_, k - 1, by rw [Int.natCast_sub (by omega)]; rfl, by rw [hln]; omega, hgd9.out, hrow9.out, hD9⟩
                case measure => simp [intOf]; omega
              · obtain rfl : k = 0 := by omega
                have gk : decide ((0 : Int) < ((0 : Nat) : Int)) = false := rfl
                obtain ⟨A9, c9, hv9⟩ := owns_slice hrow
                subst hv9
                obtain ⟨_, hc9⟩ := owns_ends hrow rfl
                obtain ⟨g0, g1, g2⟩ := (DS.cq hD).cells
                obtain ⟨e0, e1, e2⟩ := (DS.cz hD).cells
                have f0 := (DS.cz hD).frozen 0
                have f1 := (DS.cz hD).frozen 1
                have f2 := (DS.cz hD).frozen 2
                have hgf := grown_put3 wr Z (.int .i64 b.left) (.int .i64 b.right) (.int .i64 b.bell)
                have hZf := (DS.cz hD).put3 b.left b.right b.bell
                have hZl := (DS.cz hD).lt
                have hlt1 := (DS.lt1 hD)
                have hlt2 := (DS.lt2 hD)
                have hrf := owns_mono (b' := Z + 1) (by omega) (owns_past hrow hgf (by omega))
                have hdf : Below Z w (((wr.setCell ⟨Z, 0, none⟩ (.int .i64 b.left)).setCell ⟨Z, 1, none⟩ (.int .i64 b.right)).setCell ⟨Z, 2, none⟩ (.int .i64 b.bell)) := ⟨hgf.os.trans (DS.bel hD).os, hgf.tape.trans (DS.bel hD).tape, hgf.output.trans (DS.bel hD).output, Nat.le_trans (DS.bel hD).size hgf.size, fun k hk => (hgf.block k (by omega) (fun e => by cases e; omega)).trans ((DS.bel hD).block k hk)⟩
                obtain ⟨z0, z1, z2⟩ := hZf.cells
                have hout : DSOut Z w (.returned (.tuple #[.agg #[.int .i64 b.left, .int .i64 b.right, .int .i64 b.bell], .slice A9 L.length c9])) (((wr.setCell ⟨Z, 0, none⟩ (.int .i64 b.left)).setCell ⟨Z, 1, none⟩ (.int .i64 b.right)).setCell ⟨Z, 2, none⟩ (.int .i64 b.bell)) := by
                  unfold DSOut
                  exact ⟨b, A9, _, c9, L, rfl, hbg, by (try simp only [List.length_append, List.length_cons, List.length_nil]); omega, hc9, hrf, rfl, hLg.out, hdf⟩
                replace hout := Lib.hid hout
                clear hrf hdf hZf hgf
                go_wp2
                (try simp only [Exit.inBlock, Exit.then])
                generalize ((wr.setCell ⟨Z, 0, none⟩ (.int .i64 b.left)).setCell ⟨Z, 1, none⟩ (.int .i64 b.right)).setCell ⟨Z, 2, none⟩ (.int .i64 b.bell) = wf at *
                exact bodyPost_ret (v := .tuple #[.agg #[.int .i64 b.left, .int .i64 b.right, .int .i64 b.bell], .slice A9 L.length c9]) (by simp [results, Try.results16, go_sem, z0, z1, z2]) rfl hout.out
          · have g2 : (x == 2) = false := beq_eq_false_iff_ne.2 hx2
            clear hx2
            obtain ⟨A9, c9, hv9⟩ := owns_slice hrp
            subst hv9
            obtain ⟨_, hc9⟩ := owns_ends hrp rfl
            obtain ⟨g0, g1, g2⟩ := (DS.cq hDp).cells
            obtain ⟨e0, e1, e2⟩ := (DS.cz hDp).cells
            have f0 := (DS.cz hDp).frozen 0
            have f1 := (DS.cz hDp).frozen 1
            have f2 := (DS.cz hDp).frozen 2
            have hgf := grown_put3 wp Z (.int .i64 b.left) (.int .i64 b.right) (.int .i64 b.bell)
            have hZf := (DS.cz hDp).put3 b.left b.right b.bell
            have hZl := (DS.cz hDp).lt
            have hlt1 := (DS.lt1 hDp)
            have hlt2 := (DS.lt2 hDp)
            have hrf := owns_mono (b' := Z + 1) (by omega) (owns_past hrp hgf (by omega))
            have hdf : Below Z w (((wp.setCell ⟨Z, 0, none⟩ (.int .i64 b.left)).setCell ⟨Z, 1, none⟩ (.int .i64 b.right)).setCell ⟨Z, 2, none⟩ (.int .i64 b.bell)) := ⟨hgf.os.trans (DS.bel hDp).os, hgf.tape.trans (DS.bel hDp).tape, hgf.output.trans (DS.bel hDp).output, Nat.le_trans (DS.bel hDp).size hgf.size, fun k hk => (hgf.block k (by omega) (fun e => by cases e; omega)).trans ((DS.bel hDp).block k hk)⟩
            obtain ⟨z0, z1, z2⟩ := hZf.cells
            have hout : DSOut Z w (.returned (.tuple #[.agg #[.int .i64 b.left, .int .i64 b.right, .int .i64 b.bell], .slice A9 L.length c9])) (((wp.setCell ⟨Z, 0, none⟩ (.int .i64 b.left)).setCell ⟨Z, 1, none⟩ (.int .i64 b.right)).setCell ⟨Z, 2, none⟩ (.int .i64 b.bell)) := by
              unfold DSOut
              exact ⟨b, A9, _, c9, L, rfl, hbg, by (try simp only [List.length_append, List.length_cons, List.length_nil]); omega, hc9, hrf, rfl, hLg.out, hdf⟩
            replace hout := Lib.hid hout
            clear hrf hdf hZf hgf
            go_wp2
            (try simp only [Exit.inBlock, Exit.then])
            generalize ((wp.setCell ⟨Z, 0, none⟩ (.int .i64 b.left)).setCell ⟨Z, 1, none⟩ (.int .i64 b.right)).setCell ⟨Z, 2, none⟩ (.int .i64 b.bell) = wf at *
            exact bodyPost_ret (v := .tuple #[.agg #[.int .i64 b.left, .int .i64 b.right, .int .i64 b.bell], .slice A9 L.length c9]) (by simp [results, Try.results16, go_sem, z0, z1, z2]) rfl hout.out
end Go.Proofs.Ytphhpmnigchooaa
