/- A carriage and a line that are drawn. -/
import Derived.Test.YtiopeheockajaaaDoorDraw4b
import Derived.Test.YtiopeheockajaaaDoorLine0
namespace Go.Proofs.YtiopeheockajaaaDoor
open Go.RowKit
set_option linter.unusedVariables false
set_option linter.unusedSimpArgs false

/-- A carriage and a line that have been drawn. -/
def AFOut (Z : Nat) (w : World) (e : Ending) (w' : World) : Prop := ∃ b : CarriageD, ∃ s : ByteArray, e = .returned (.tuple #[.agg #[.int .i64 b.left, .int .i64 b.right, .int .i64 b.bell], .string s]) ∧ b.good ∧ s.size ≤ 301 ∧ Below Z w w'
theorem bytes_empty (w : World) (N : Nat) (hN : w.heap.size = N) : OBytes (w.alloc (.cells #[] 5)) N (.slice (some ⟨N, 0, none⟩) 0 0) [] := by
  have := World.ownsRow_lit (w := w) (e := 5) (base := N) (size := 1) #[] 0 (by omega) (by simp [maxLen]) (by simp)
  unfold OBytes
  simpa [hN] using this
theorem byteU_snoc (l : List UInt8) (b : UInt8) : (l ++ [b]).map byteU = l.map byteU ++ [.int .u8 (b.toNat : Int)] := by simp [byteU]

set_option maxRecDepth 100000 in
set_option maxHeartbeats 4000000 in
theorem drawAF_any (A : Option Addr) (n c : Nat) (xs : List Int) (w : World) (hn : n ≤ maxLen) (h : Bytes w A n xs) (hg : ∀ x ∈ xs, byteGood x) :
    Calls Tryd.prog 12 #[.slice A n c] w (AFOut w.heap.size w) := by
  obtain ⟨i0, hi, hz0', hz1', hz2'⟩ := info_parts Tryd.infoU8
  have hZ0 := CRow.new w 0 0 0
  have hb0 := below_a1 w (.cells #[.int .i64 0, .int .i64 0, .int .i64 0] 27)
  have hfr := Lib.hid (from_any A n c xs _ hn (h.below hb0) hg)
  go_enter Tryd.func12, Tryd.ntmps12
  go_wp2_with fail
  have hz0 := hZ0.lt
  generalize w.alloc (.cells #[.int .i64 0, .int .i64 0, .int .i64 0] 27) = w0 at *
  generalize hZ : w.heap.size = Z at *
  refine hfr.out.mono ?_
  rintro e w1 ⟨rfl, hs1, hb1⟩
  have hZ1 := hZ0.below hb1
  have hd1 : Below Z w w1 := hb0.trans (hb1.mono (by omega))
  have hr1 := hs1.lt
  generalize w0.heap.size = r at *
  have hld := Lib.hid (l04draw_any r 0 w1 hs1 (by omega))
  go_wp2_with fail
  refine hld.out.mono ?_
  rintro e w2 ⟨b, rfl, hbg, hs2, hdr⟩
  have hZ2 := hZ1.block (hdr.block Z hZ1.lt (by omega))
  have hd2 : Below Z w w2 := hd1.trans ⟨hdr.os, hdr.tape, hdr.output, hdr.size, fun k hk => hdr.block k (by have := hZ1.lt; omega) (by omega)⟩
  have hr2 := hs2.lt
  have hC3 := CRow.new w2 b.left b.right b.bell
  have hb3 := below_a1 w2 (.cells #[.int .i64 b.left, .int .i64 b.right, .int .i64 b.bell] 27)
  have hsz3 : (w2.alloc (.cells #[.int .i64 b.left, .int .i64 b.right, .int .i64 b.bell] 27)).heap.size = w2.heap.size + 1 := by simp
  go_wp2_with fail
  have hq2 := hC3.lt
  generalize w2.alloc (.cells #[.int .i64 b.left, .int .i64 b.right, .int .i64 b.bell] 27) = w3 at *
  have hZ3 := hZ2.below hb3
  have hs3 := hs2.below hb3
  have hd3 := hd2.trans (hb3.mono (by have := hZ2.lt; omega))
  have hzq := hZ2.lt
  generalize w2.heap.size = Q at *
  have hem := bytes_empty w3 (Q + 1) hsz3
  have hbe := below_a1 w3 (.cells #[] 5)
  have hsE := hs3.below hbe
  have hCE := hC3.below hbe
  have hZE := hZ3.below hbe
  have hdE : Drawn r (Q + 1) w3 (w3.alloc (.cells #[] 5)) := (Drawn.refl r (Q + 1) w3).below hbe (by omega)
  have hzE : Q + 1 ≤ (w3.alloc (.cells #[] 5)).heap.size := by have := hbe.size; omega
  have hrQ : r < Q := by omega
  generalize w3.alloc (.cells #[] 5) = w4 at *
  refine (pick_any r 10 24 w4 hsE (by omega) (by omega)).mono ?_
  rintro e w5 ⟨x1, rfl, l1, u1, _, hs5, hg5⟩
  replace u1 := u1 (by omega)
  have hrow5 := owns_past hem hg5 (by omega)
  have hd5 := hdE.pick hg5 hzE
  have hz5 := Nat.le_trans hzE hg5.size
  have ho5 := Lib.hid (one_any r 12 24 w5 hs5 (by omega) (by omega))
  clear hem hsE hCE hZE hdE hbe hg5 hs3 hfr hld
  go_wp2_with fail
  refine ho5.out.mono ?_
  rintro e w6 ⟨b6, rfl, hs6, hg6⟩
  have hrow6 := owns_past hrow5 hg6 (by omega)
  have hd6 := hd5.pick hg6 hz5
  have hz6 := Nat.le_trans hz5 hg6.size
  clear hrow5 hd5 hs5 ho5 hg6
  cases b6 with
  | true =>
    have hp3 := Lib.hid (pick_any r 14 2 w6 hs6 (by omega) (by omega))
    go_wp2_with fail
    refine hp3.out.mono ?_
    rintro e w7 ⟨x2, rfl, l2, u2, _, hs7, hg7⟩
    replace u2 := u2 (by omega)
    have hrow7 := owns_past hrow6 hg7 (by omega)
    have hd7 := hd6.pick hg7 hz6
    have hz7 := Nat.le_trans hz6 hg7.size
    obtain ⟨m, hm⟩ : ∃ m : Nat, 300 + x2 = (m : Int) := ⟨(300 + x2).toNat, by omega⟩
    have mw : IntKind.i64.wrap (300 + x2) = (m : Int) := by rw [← hm]; exact IntWalk.i64_in _ (by omega)
    have hm1 : m ≤ 301 := by omega
    clear hrow6 hd6 hs6 hp3 hg7
    go_wp2
    go_loopw [6, 8] (fun v kv wr => ∃ (L : List UInt8) (k : Nat), kv = .int .i64 (k : Int) ∧ L.length + k = m ∧ OBytes wr (Q + 1) v L ∧ SrcAt wr r (16 + 2 * L.length) ∧ Drawn r (Q + 1) w3 wr ∧ Q + 1 ≤ wr.heap.size) (fun _ kv _ => (intOf kv).toNat)
    case atStart => exact ⟨[], m, rfl, by simp, hrow7, hs7.mono (by show _ ≤ 16 + 2 * 0; omega), hd7, hz7⟩
    case round =>
      rename World => wr
      obtain ⟨L, k, rfl, hLk, hrow, hs, hd, hz⟩ := hrel
      by_cases hk : 0 < k
      · have gk : decide ((0 : Int) < (k : Int)) = true := decide_eq_true (by omega)
        have hp := Lib.hid (pick_any r (16 + 2 * L.length) 6 wr hs (by omega) (by omega))
        go_wp2_with fail
        refine hp.out.mono ?_
        rintro e wa ⟨y, rfl, ya, yb, _, hsa, hga⟩
        replace yb := yb (by omega)
        obtain ⟨i, rfl⟩ : ∃ i : Nat, y = (i : Int) := ⟨y.toNat, by omega⟩
        have hrowa : OBytes wa (Q + 1) u6 L := owns_past hrow hga (by omega)
        have hda := hd.pick hga hz
        have hza := Nat.le_trans hz hga.size
        have hil : i < (⟨#[97, 98, 32, 120, 32, 32]⟩ : ByteArray).size := by show i < 6; omega
        have hix : ∀ W, (Instr.index 9 (.string ⟨#[97, 98, 32, 120, 32, 32]⟩) (.int .i64 (i : Int))).run Tryd.prog W = .ok (.int .u8 (((⟨#[97, 98, 32, 120, 32, 32]⟩ : ByteArray)[i]'hil).toNat : Int)) W := by
          intro W
          go_simp
        generalize ((⟨#[97, 98, 32, 120, 32, 32]⟩ : ByteArray)[i]'hil) = bb at *
        clear hrow hd hs hga hp
        have h63 : L.length + 1 ≤ maxLen := by unfold maxLen; omega
        go_wp2_with (at_builtin; refine wpList_append_own _ rfl _ _ 32 rfl (Q + 1) 5 i0 _ 1 1 Tryd.underlying32 hi hz0' hz1' hz2' rfl (by decide) _ _ _ rfl (hrowa.alloc _) ⟨wa.heap.size, 0, none⟩ 1 1 [.int .u8 (bb.toNat : Int)] rfl rfl ?a1 ?b1 h63 ?d1 ?e1 ?_)
        case a1 =>
          intro i u hi
          match i, hi with
          | 0, hi => cases hi; exact cell_new (by simp [Addr.add]) rfl
          | i + 1, hi => simp at hi
        case b1 =>
          intro u hu
          simp only [List.mem_cons, List.not_mem_nil, or_false] at hu
          rcases hu with rfl
          rfl
        case d1 => omega
        case e1 => simp; omega
        intro v' w9 hown9 hgr9 hnil
        have hgA := grown_trans (grown_below (below_a1 wa _) _) hgr9
        have hs9 := SrcAt.grownO hsa hgA (fun q hq => by have := act_base hrowa q hq; omega)
        have hd9 := Drawn.youngO hda hgA hza (fun q hq => act_base hrowa q hq)
        have hz9 := Nat.le_trans hza hgA.size
        have hln : (L ++ [bb]).length = L.length + 1 := by simp
        have hrow9 : OBytes w9 (Q + 1) v' (L ++ [bb]) := by
          unfold OBytes
          rw [hln, byteU_snoc]
          exact hown9
        have hrel9 : Hid (OBytes w9 (Q + 1) v' (L ++ [bb]) ∧ SrcAt w9 r (16 + 2 * (L ++ [bb]).length) ∧ Drawn r (Q + 1) w3 w9 ∧ Q + 1 ≤ w9.heap.size) := Lib.hid ⟨hrow9, hs9.mono (by rw [hln]; omega), hd9, hz9⟩
        clear hown9 hgr9 hnil hgA hs9 hd9 hz9 hrow9
        go_wp2
        go_roundw
        case rel => exact ⟨L ++ [bb], k - 1, by rw [Int.natCast_sub (by omega)]; rfl, by rw [hln]; omega, hrel9.out.1, hrel9.out.2.1, hrel9.out.2.2.1, hrel9.out.2.2.2⟩
        case measure => simp [intOf]; omega
      · obtain rfl : k = 0 := by omega
        have hLm : L.length = m := by omega
        subst hLm
        by_cases hm0 : 0 < L.length
        · have gm : decide ((0 : Int) < (L.length : Int)) = true := decide_eq_true (by omega)
          have ho := Lib.hid (one_any r (16 + 2 * L.length) 16 wr hs (by omega) (by omega))
          go_wp2_with fail
          refine ho.out.mono ?_
          rintro e wa ⟨b7, rfl, hsa, hga⟩
          have hrowa : OBytes wa (Q + 1) u6 L := owns_past hrow hga (by omega)
          have hda := hd.pick hga hz
          have hza := Nat.le_trans hz hga.size
          clear hrow hd hs hga ho
          cases b7 with
          | true =>
            obtain ⟨g, cap, hv, hgN, hgw, hcap, hcell, hfro, hset⟩ := owns_at hrowa hm0
            subst hv
            obtain ⟨c9, hc9⟩ : ∃ c9, (L.map byteU)[0]? = some c9 := ⟨_, List.getElem?_eq_getElem (by simpa using hm0)⟩
            have hcc := hcell 0 c9 hc9
            have hff := hfro 0
            obtain ⟨hgS, hrS⟩ := hset 0 (.int .u8 127)
            have hrS' : OBytes (wa.setCell ⟨g, 0, none⟩ (.int .u8 127)) (Q + 1) (.slice (some ⟨g, 0, none⟩) L.length cap) (L.set 0 127) := by
              have h0 := hrS (by simpa using hm0)
              unfold OBytes
              rw [List.length_set, List.map_set]
              exact h0
            have hlS : (L.set 0 127).length = L.length := List.length_set
            have hdS := hda.young hgS hza hgN
            have hi1 : (0 : Int) < (L.length : Int) := by omega
            clear hcell hfro hset hrS hc9 hrowa hda
            go_wp2_with fail
            generalize wa.setCell ⟨g, 0, none⟩ (.int .u8 127) = wz at *
            have hCz := hC3.block (Drawn.block hdS Q (by omega) (by omega))
            have hZz := hZ3.block (Drawn.block hdS Z (by omega) (by omega))
            obtain ⟨e0, e1, e2⟩ := hZz.cells
            have f0 := hZz.frozen 0
            have f1 := hZz.frozen 1
            have f2 := hZz.frozen 2
            obtain ⟨g0, g1, g2⟩ := hCz.cells
            refine wp_region_held_drew (S := fun w' => w'.cell? ⟨Q, 0, none⟩ = some (.int .i64 b.left) ∧ w'.cell? ⟨Q, 1, none⟩ = some (.int .i64 b.right) ∧ w'.cell? ⟨Q, 2, none⟩ = some (.int .i64 b.bell) ∧ OBytes w' (Q + 1) (.slice (some ⟨g, 0, none⟩) L.length cap) ((L.set 0 127))) (by kernel_rfl) ?_ (fun hHeld => ?_)
            · exact ⟨g0, g1, g2, hrS'⟩
            refine wpAnyH_take (i := 0) (v := ?vp10) rfl (by kernel_rfl) (by kernel_rfl) (by kernel_rfl) (fun _ _ _ h => h) (Or.inl ⟨rfl, ?yp10⟩) (by assumption) ?_
            case yp10 => (intro w hSw; (try dsimp only at hSw); go_simp; first | done | with_reducible rfl)
            try simp only [List.getElem_toArray, List.getElem_cons_succ, List.getElem_cons_zero, Act.put, List.setIfInBounds_toArray, List.set_cons_zero, List.set_cons_succ]
            refine wpAnyH_take (i := 1) (v := ?vp11) rfl (by kernel_rfl) (by kernel_rfl) (by kernel_rfl) (fun _ _ _ h => h) (Or.inl ⟨rfl, ?yp11⟩) (by assumption) ?_
            case yp11 => (intro w hSw; (try dsimp only at hSw); go_simp; first | done | with_reducible rfl)
            try simp only [List.getElem_toArray, List.getElem_cons_succ, List.getElem_cons_zero, Act.put, List.setIfInBounds_toArray, List.set_cons_zero, List.set_cons_succ]
            refine wpAnyH_take (i := 2) (v := .string ⟨((L.set 0 127)).toArray⟩) rfl (by kernel_rfl) (by kernel_rfl) (by kernel_rfl) (fun _ _ _ h => h) (Or.inl ⟨rfl, ?yp12⟩) (by assumption) ?_
            case yp12 => (intro w' hSw; have hcv := obytes_conv hSw.2.2.2; (try dsimp only at hSw); go_simp; first | done | with_reducible rfl)
            try simp only [List.getElem_toArray, List.getElem_cons_succ, List.getElem_cons_zero, Act.put, List.setIfInBounds_toArray, List.set_cons_zero, List.set_cons_succ]
            have hgf := (grown_put3 wz Z (.int .i64 b.left) (.int .i64 b.right) (.int .i64 b.bell))
            have hZf0 := CRow.put3 (w := wz) hZz b.left b.right b.bell
            have hCf := CRow.grown (w := wz) hCz hgf (fun e => by cases e; omega)
            refine wpAnyH_ready (rs := [3]) (by kernel_rfl) (by simp) ?_
            refine AllReadyH.cons rfl (fun K hK => ?_) AllReadyH.nil
            go_simp
            refine hK.out _ _ ?_ (fun hHeld => ?_)
            · exact ⟨hCf.cells.1, hCf.cells.2.1, hCf.cells.2.2, owns_block hrS' (fun g' hg' => hgf.block g' ((World.ownsRow.lt hrS' _ hg').2) (fun e => by cases e; have := act_base hrS' _ hg'; omega))⟩
            clear hK K
            try simp only [List.getElem_toArray, List.getElem_cons_succ, List.getElem_cons_zero, Act.put, List.setIfInBounds_toArray, List.set_cons_zero, List.set_cons_succ]
            refine wpAnyH_take (i := 4) (v := ?ve14) rfl (by kernel_rfl) (by kernel_rfl) (by kernel_rfl) (fun _ _ _ h => h) (Or.inl ⟨rfl, ?ye14⟩) (by assumption) ?_
            case ye14 => (intro w hSw; (try dsimp only at hSw); go_simp; first | done | with_reducible rfl)
            try simp only [List.getElem_toArray, List.getElem_cons_succ, List.getElem_cons_zero, Act.put, List.setIfInBounds_toArray, List.set_cons_zero, List.set_cons_succ]
            refine wpAnyH_done (by kernel_rfl) ?_ _
            have hZf : CRow (World.drew ((((wz).setCell ⟨Z, 0, none⟩ (.int .i64 b.left)).setCell ⟨Z, 1, none⟩ (.int .i64 b.right)).setCell ⟨Z, 2, none⟩ (.int .i64 b.bell))) Z ⟨b.left, b.right, b.bell⟩ := hZf0
            have hdf : Below Z w (World.drew ((((wz).setCell ⟨Z, 0, none⟩ (.int .i64 b.left)).setCell ⟨Z, 1, none⟩ (.int .i64 b.right)).setCell ⟨Z, 2, none⟩ (.int .i64 b.bell))) := ⟨hgf.os.trans ((Drawn.os hdS).trans hd3.os), hgf.tape.trans ((Drawn.tape hdS).trans hd3.tape), hgf.output.trans ((Drawn.output hdS).trans hd3.output), Nat.le_trans hd3.size (Nat.le_trans (Drawn.size hdS) hgf.size), fun k hk => (hgf.block k (by have := hZz.lt; omega) (fun e => by cases e; omega)).trans ((Drawn.block hdS k (by omega) (by omega)).trans (hd3.block k hk))⟩
            obtain ⟨z0, z1, z2⟩ := hZf.cells
            have hlz : (⟨((L.set 0 127)).toArray⟩ : ByteArray).size ≤ 301 := by show ((L.set 0 127)).toArray.size ≤ 301; simp; omega
            generalize World.drew ((((wz).setCell ⟨Z, 0, none⟩ (.int .i64 b.left)).setCell ⟨Z, 1, none⟩ (.int .i64 b.right)).setCell ⟨Z, 2, none⟩ (.int .i64 b.bell)) = wf at *
            go_wp2
            (try simp only [Exit.inBlock, Exit.then])
            refine bodyPost_ret (v := .tuple #[.agg #[.int .i64 b.left, .int .i64 b.right, .int .i64 b.bell], .string ⟨((L.set 0 127)).toArray⟩]) (by simp [results, Tryd.results12, go_sem, z0, z1, z2]) rfl ?_
            unfold AFOut
            exact ⟨b, _, rfl, hbg, hlz, hdf⟩
          | false =>
            go_wp2_with fail
            have hCz := hC3.block (Drawn.block hda Q (by omega) (by omega))
            have hZz := hZ3.block (Drawn.block hda Z (by omega) (by omega))
            obtain ⟨e0, e1, e2⟩ := hZz.cells
            have f0 := hZz.frozen 0
            have f1 := hZz.frozen 1
            have f2 := hZz.frozen 2
            obtain ⟨g0, g1, g2⟩ := hCz.cells
            refine wp_region_held_drew (S := fun w' => w'.cell? ⟨Q, 0, none⟩ = some (.int .i64 b.left) ∧ w'.cell? ⟨Q, 1, none⟩ = some (.int .i64 b.right) ∧ w'.cell? ⟨Q, 2, none⟩ = some (.int .i64 b.bell) ∧ OBytes w' (Q + 1) (u6) (L)) (by kernel_rfl) ?_ (fun hHeld => ?_)
            · exact ⟨g0, g1, g2, hrowa⟩
            refine wpAnyH_take (i := 0) (v := ?vp20) rfl (by kernel_rfl) (by kernel_rfl) (by kernel_rfl) (fun _ _ _ h => h) (Or.inl ⟨rfl, ?yp20⟩) (by assumption) ?_
            case yp20 => (intro w hSw; (try dsimp only at hSw); go_simp; first | done | with_reducible rfl)
            try simp only [List.getElem_toArray, List.getElem_cons_succ, List.getElem_cons_zero, Act.put, List.setIfInBounds_toArray, List.set_cons_zero, List.set_cons_succ]
            refine wpAnyH_take (i := 1) (v := ?vp21) rfl (by kernel_rfl) (by kernel_rfl) (by kernel_rfl) (fun _ _ _ h => h) (Or.inl ⟨rfl, ?yp21⟩) (by assumption) ?_
            case yp21 => (intro w hSw; (try dsimp only at hSw); go_simp; first | done | with_reducible rfl)
            try simp only [List.getElem_toArray, List.getElem_cons_succ, List.getElem_cons_zero, Act.put, List.setIfInBounds_toArray, List.set_cons_zero, List.set_cons_succ]
            refine wpAnyH_take (i := 2) (v := .string ⟨(L).toArray⟩) rfl (by kernel_rfl) (by kernel_rfl) (by kernel_rfl) (fun _ _ _ h => h) (Or.inl ⟨rfl, ?yp22⟩) (by assumption) ?_
            case yp22 => (intro w' hSw; have hcv := obytes_conv hSw.2.2.2; (try dsimp only at hSw); go_simp; first | done | with_reducible rfl)
            try simp only [List.getElem_toArray, List.getElem_cons_succ, List.getElem_cons_zero, Act.put, List.setIfInBounds_toArray, List.set_cons_zero, List.set_cons_succ]
            have hgf := (grown_put3 wa Z (.int .i64 b.left) (.int .i64 b.right) (.int .i64 b.bell))
            have hZf0 := CRow.put3 (w := wa) hZz b.left b.right b.bell
            have hCf := CRow.grown (w := wa) hCz hgf (fun e => by cases e; omega)
            refine wpAnyH_ready (rs := [3]) (by kernel_rfl) (by simp) ?_
            refine AllReadyH.cons rfl (fun K hK => ?_) AllReadyH.nil
            go_simp
            refine hK.out _ _ ?_ (fun hHeld => ?_)
            · exact ⟨hCf.cells.1, hCf.cells.2.1, hCf.cells.2.2, owns_block hrowa (fun g' hg' => hgf.block g' ((World.ownsRow.lt hrowa _ hg').2) (fun e => by cases e; have := act_base hrowa _ hg'; omega))⟩
            clear hK K
            try simp only [List.getElem_toArray, List.getElem_cons_succ, List.getElem_cons_zero, Act.put, List.setIfInBounds_toArray, List.set_cons_zero, List.set_cons_succ]
            refine wpAnyH_take (i := 4) (v := ?ve24) rfl (by kernel_rfl) (by kernel_rfl) (by kernel_rfl) (fun _ _ _ h => h) (Or.inl ⟨rfl, ?ye24⟩) (by assumption) ?_
            case ye24 => (intro w hSw; (try dsimp only at hSw); go_simp; first | done | with_reducible rfl)
            try simp only [List.getElem_toArray, List.getElem_cons_succ, List.getElem_cons_zero, Act.put, List.setIfInBounds_toArray, List.set_cons_zero, List.set_cons_succ]
            refine wpAnyH_done (by kernel_rfl) ?_ _
            have hZf : CRow (World.drew ((((wa).setCell ⟨Z, 0, none⟩ (.int .i64 b.left)).setCell ⟨Z, 1, none⟩ (.int .i64 b.right)).setCell ⟨Z, 2, none⟩ (.int .i64 b.bell))) Z ⟨b.left, b.right, b.bell⟩ := hZf0
            have hdf : Below Z w (World.drew ((((wa).setCell ⟨Z, 0, none⟩ (.int .i64 b.left)).setCell ⟨Z, 1, none⟩ (.int .i64 b.right)).setCell ⟨Z, 2, none⟩ (.int .i64 b.bell))) := ⟨hgf.os.trans ((Drawn.os hda).trans hd3.os), hgf.tape.trans ((Drawn.tape hda).trans hd3.tape), hgf.output.trans ((Drawn.output hda).trans hd3.output), Nat.le_trans hd3.size (Nat.le_trans (Drawn.size hda) hgf.size), fun k hk => (hgf.block k (by have := hZz.lt; omega) (fun e => by cases e; omega)).trans ((Drawn.block hda k (by omega) (by omega)).trans (hd3.block k hk))⟩
            obtain ⟨z0, z1, z2⟩ := hZf.cells
            have hlz : (⟨(L).toArray⟩ : ByteArray).size ≤ 301 := by show (L).toArray.size ≤ 301; simp; omega
            generalize World.drew ((((wa).setCell ⟨Z, 0, none⟩ (.int .i64 b.left)).setCell ⟨Z, 1, none⟩ (.int .i64 b.right)).setCell ⟨Z, 2, none⟩ (.int .i64 b.bell)) = wf at *
            go_wp2
            (try simp only [Exit.inBlock, Exit.then])
            refine bodyPost_ret (v := .tuple #[.agg #[.int .i64 b.left, .int .i64 b.right, .int .i64 b.bell], .string ⟨(L).toArray⟩]) (by simp [results, Tryd.results12, go_sem, z0, z1, z2]) rfl ?_
            unfold AFOut
            exact ⟨b, _, rfl, hbg, hlz, hdf⟩
        · have gm : decide ((0 : Int) < (L.length : Int)) = false := decide_eq_false (by omega)
          go_wp2_with fail
          have hCz := hC3.block (Drawn.block hd Q (by omega) (by omega))
          have hZz := hZ3.block (Drawn.block hd Z (by omega) (by omega))
          obtain ⟨e0, e1, e2⟩ := hZz.cells
          have f0 := hZz.frozen 0
          have f1 := hZz.frozen 1
          have f2 := hZz.frozen 2
          obtain ⟨g0, g1, g2⟩ := hCz.cells
          refine wp_region_held_drew (S := fun w' => w'.cell? ⟨Q, 0, none⟩ = some (.int .i64 b.left) ∧ w'.cell? ⟨Q, 1, none⟩ = some (.int .i64 b.right) ∧ w'.cell? ⟨Q, 2, none⟩ = some (.int .i64 b.bell) ∧ OBytes w' (Q + 1) (u6) (L)) (by kernel_rfl) ?_ (fun hHeld => ?_)
          · exact ⟨g0, g1, g2, hrow⟩
          refine wpAnyH_take (i := 0) (v := ?vp30) rfl (by kernel_rfl) (by kernel_rfl) (by kernel_rfl) (fun _ _ _ h => h) (Or.inl ⟨rfl, ?yp30⟩) (by assumption) ?_
          case yp30 => (intro w hSw; (try dsimp only at hSw); go_simp; first | done | with_reducible rfl)
          try simp only [List.getElem_toArray, List.getElem_cons_succ, List.getElem_cons_zero, Act.put, List.setIfInBounds_toArray, List.set_cons_zero, List.set_cons_succ]
          refine wpAnyH_take (i := 1) (v := ?vp31) rfl (by kernel_rfl) (by kernel_rfl) (by kernel_rfl) (fun _ _ _ h => h) (Or.inl ⟨rfl, ?yp31⟩) (by assumption) ?_
          case yp31 => (intro w hSw; (try dsimp only at hSw); go_simp; first | done | with_reducible rfl)
          try simp only [List.getElem_toArray, List.getElem_cons_succ, List.getElem_cons_zero, Act.put, List.setIfInBounds_toArray, List.set_cons_zero, List.set_cons_succ]
          refine wpAnyH_take (i := 2) (v := .string ⟨(L).toArray⟩) rfl (by kernel_rfl) (by kernel_rfl) (by kernel_rfl) (fun _ _ _ h => h) (Or.inl ⟨rfl, ?yp32⟩) (by assumption) ?_
          case yp32 => (intro w' hSw; have hcv := obytes_conv hSw.2.2.2; (try dsimp only at hSw); go_simp; first | done | with_reducible rfl)
          try simp only [List.getElem_toArray, List.getElem_cons_succ, List.getElem_cons_zero, Act.put, List.setIfInBounds_toArray, List.set_cons_zero, List.set_cons_succ]
          have hgf := (grown_put3 wr Z (.int .i64 b.left) (.int .i64 b.right) (.int .i64 b.bell))
          have hZf0 := CRow.put3 (w := wr) hZz b.left b.right b.bell
          have hCf := CRow.grown (w := wr) hCz hgf (fun e => by cases e; omega)
          refine wpAnyH_ready (rs := [3]) (by kernel_rfl) (by simp) ?_
          refine AllReadyH.cons rfl (fun K hK => ?_) AllReadyH.nil
          go_simp
          refine hK.out _ _ ?_ (fun hHeld => ?_)
          · exact ⟨hCf.cells.1, hCf.cells.2.1, hCf.cells.2.2, owns_block hrow (fun g' hg' => hgf.block g' ((World.ownsRow.lt hrow _ hg').2) (fun e => by cases e; have := act_base hrow _ hg'; omega))⟩
          clear hK K
          try simp only [List.getElem_toArray, List.getElem_cons_succ, List.getElem_cons_zero, Act.put, List.setIfInBounds_toArray, List.set_cons_zero, List.set_cons_succ]
          refine wpAnyH_take (i := 4) (v := ?ve34) rfl (by kernel_rfl) (by kernel_rfl) (by kernel_rfl) (fun _ _ _ h => h) (Or.inl ⟨rfl, ?ye34⟩) (by assumption) ?_
          case ye34 => (intro w hSw; (try dsimp only at hSw); go_simp; first | done | with_reducible rfl)
          try simp only [List.getElem_toArray, List.getElem_cons_succ, List.getElem_cons_zero, Act.put, List.setIfInBounds_toArray, List.set_cons_zero, List.set_cons_succ]
          refine wpAnyH_done (by kernel_rfl) ?_ _
          have hZf : CRow (World.drew ((((wr).setCell ⟨Z, 0, none⟩ (.int .i64 b.left)).setCell ⟨Z, 1, none⟩ (.int .i64 b.right)).setCell ⟨Z, 2, none⟩ (.int .i64 b.bell))) Z ⟨b.left, b.right, b.bell⟩ := hZf0
          have hdf : Below Z w (World.drew ((((wr).setCell ⟨Z, 0, none⟩ (.int .i64 b.left)).setCell ⟨Z, 1, none⟩ (.int .i64 b.right)).setCell ⟨Z, 2, none⟩ (.int .i64 b.bell))) := ⟨hgf.os.trans ((Drawn.os hd).trans hd3.os), hgf.tape.trans ((Drawn.tape hd).trans hd3.tape), hgf.output.trans ((Drawn.output hd).trans hd3.output), Nat.le_trans hd3.size (Nat.le_trans (Drawn.size hd) hgf.size), fun k hk => (hgf.block k (by have := hZz.lt; omega) (fun e => by cases e; omega)).trans ((Drawn.block hd k (by omega) (by omega)).trans (hd3.block k hk))⟩
          obtain ⟨z0, z1, z2⟩ := hZf.cells
          have hlz : (⟨(L).toArray⟩ : ByteArray).size ≤ 301 := by show (L).toArray.size ≤ 301; simp; omega
          generalize World.drew ((((wr).setCell ⟨Z, 0, none⟩ (.int .i64 b.left)).setCell ⟨Z, 1, none⟩ (.int .i64 b.right)).setCell ⟨Z, 2, none⟩ (.int .i64 b.bell)) = wf at *
          go_wp2
          (try simp only [Exit.inBlock, Exit.then])
          refine bodyPost_ret (v := .tuple #[.agg #[.int .i64 b.left, .int .i64 b.right, .int .i64 b.bell], .string ⟨(L).toArray⟩]) (by simp [results, Tryd.results12, go_sem, z0, z1, z2]) rfl ?_
          unfold AFOut
          exact ⟨b, _, rfl, hbg, hlz, hdf⟩
  | false =>
    obtain ⟨m, rfl⟩ : ∃ m : Nat, x1 = (m : Int) := ⟨x1.toNat, by omega⟩
    have hm1 : m ≤ 301 := by omega
    go_wp2
    go_loopw [6, 8] (fun v kv wr => ∃ (L : List UInt8) (k : Nat), kv = .int .i64 (k : Int) ∧ L.length + k = m ∧ OBytes wr (Q + 1) v L ∧ SrcAt wr r (16 + 2 * L.length) ∧ Drawn r (Q + 1) w3 wr ∧ Q + 1 ≤ wr.heap.size) (fun _ kv _ => (intOf kv).toNat)
    case atStart => exact ⟨[], m, rfl, by simp, hrow6, hs6.mono (by show _ ≤ 16 + 2 * 0; omega), hd6, hz6⟩
    case round =>
      rename World => wr
      obtain ⟨L, k, rfl, hLk, hrow, hs, hd, hz⟩ := hrel
      by_cases hk : 0 < k
      · have gk : decide ((0 : Int) < (k : Int)) = true := decide_eq_true (by omega)
        have hp := Lib.hid (pick_any r (16 + 2 * L.length) 6 wr hs (by omega) (by omega))
        go_wp2_with fail
        refine hp.out.mono ?_
        rintro e wa ⟨y, rfl, ya, yb, _, hsa, hga⟩
        replace yb := yb (by omega)
        obtain ⟨i, rfl⟩ : ∃ i : Nat, y = (i : Int) := ⟨y.toNat, by omega⟩
        have hrowa : OBytes wa (Q + 1) u6 L := owns_past hrow hga (by omega)
        have hda := hd.pick hga hz
        have hza := Nat.le_trans hz hga.size
        have hil : i < (⟨#[97, 98, 32, 120, 32, 32]⟩ : ByteArray).size := by show i < 6; omega
        have hix : ∀ W, (Instr.index 9 (.string ⟨#[97, 98, 32, 120, 32, 32]⟩) (.int .i64 (i : Int))).run Tryd.prog W = .ok (.int .u8 (((⟨#[97, 98, 32, 120, 32, 32]⟩ : ByteArray)[i]'hil).toNat : Int)) W := by
          intro W
          go_simp
        generalize ((⟨#[97, 98, 32, 120, 32, 32]⟩ : ByteArray)[i]'hil) = bb at *
        clear hrow hd hs hga hp
        have h63 : L.length + 1 ≤ maxLen := by unfold maxLen; omega
        go_wp2_with (at_builtin; refine wpList_append_own _ rfl _ _ 32 rfl (Q + 1) 5 i0 _ 1 1 Tryd.underlying32 hi hz0' hz1' hz2' rfl (by decide) _ _ _ rfl (hrowa.alloc _) ⟨wa.heap.size, 0, none⟩ 1 1 [.int .u8 (bb.toNat : Int)] rfl rfl ?a1 ?b1 h63 ?d1 ?e1 ?_)
        case a1 =>
          intro i u hi
          match i, hi with
          | 0, hi => cases hi; exact cell_new (by simp [Addr.add]) rfl
          | i + 1, hi => simp at hi
        case b1 =>
          intro u hu
          simp only [List.mem_cons, List.not_mem_nil, or_false] at hu
          rcases hu with rfl
          rfl
        case d1 => omega
        case e1 => simp; omega
        intro v' w9 hown9 hgr9 hnil
        have hgA := grown_trans (grown_below (below_a1 wa _) _) hgr9
        have hs9 := SrcAt.grownO hsa hgA (fun q hq => by have := act_base hrowa q hq; omega)
        have hd9 := Drawn.youngO hda hgA hza (fun q hq => act_base hrowa q hq)
        have hz9 := Nat.le_trans hza hgA.size
        have hln : (L ++ [bb]).length = L.length + 1 := by simp
        have hrow9 : OBytes w9 (Q + 1) v' (L ++ [bb]) := by
          unfold OBytes
          rw [hln, byteU_snoc]
          exact hown9
        have hrel9 : Hid (OBytes w9 (Q + 1) v' (L ++ [bb]) ∧ SrcAt w9 r (16 + 2 * (L ++ [bb]).length) ∧ Drawn r (Q + 1) w3 w9 ∧ Q + 1 ≤ w9.heap.size) := Lib.hid ⟨hrow9, hs9.mono (by rw [hln]; omega), hd9, hz9⟩
        clear hown9 hgr9 hnil hgA hs9 hd9 hz9 hrow9
        go_wp2
        go_roundw
        case rel => exact ⟨L ++ [bb], k - 1, by rw [Int.natCast_sub (by omega)]; rfl, by rw [hln]; omega, hrel9.out.1, hrel9.out.2.1, hrel9.out.2.2.1, hrel9.out.2.2.2⟩
        case measure => simp [intOf]; omega
      · obtain rfl : k = 0 := by omega
        have hLm : L.length = m := by omega
        subst hLm
        by_cases hm0 : 0 < L.length
        · have gm : decide ((0 : Int) < (L.length : Int)) = true := decide_eq_true (by omega)
          have ho := Lib.hid (one_any r (16 + 2 * L.length) 16 wr hs (by omega) (by omega))
          go_wp2_with fail
          refine ho.out.mono ?_
          rintro e wa ⟨b7, rfl, hsa, hga⟩
          have hrowa : OBytes wa (Q + 1) u6 L := owns_past hrow hga (by omega)
          have hda := hd.pick hga hz
          have hza := Nat.le_trans hz hga.size
          clear hrow hd hs hga ho
          cases b7 with
          | true =>
            obtain ⟨g, cap, hv, hgN, hgw, hcap, hcell, hfro, hset⟩ := owns_at hrowa hm0
            subst hv
            obtain ⟨c9, hc9⟩ : ∃ c9, (L.map byteU)[0]? = some c9 := ⟨_, List.getElem?_eq_getElem (by simpa using hm0)⟩
            have hcc := hcell 0 c9 hc9
            have hff := hfro 0
            obtain ⟨hgS, hrS⟩ := hset 0 (.int .u8 127)
            have hrS' : OBytes (wa.setCell ⟨g, 0, none⟩ (.int .u8 127)) (Q + 1) (.slice (some ⟨g, 0, none⟩) L.length cap) (L.set 0 127) := by
              have h0 := hrS (by simpa using hm0)
              unfold OBytes
              rw [List.length_set, List.map_set]
              exact h0
            have hlS : (L.set 0 127).length = L.length := List.length_set
            have hdS := hda.young hgS hza hgN
            have hi1 : (0 : Int) < (L.length : Int) := by omega
            clear hcell hfro hset hrS hc9 hrowa hda
            go_wp2_with fail
            generalize wa.setCell ⟨g, 0, none⟩ (.int .u8 127) = wz at *
            have hCz := hC3.block (Drawn.block hdS Q (by omega) (by omega))
            have hZz := hZ3.block (Drawn.block hdS Z (by omega) (by omega))
            obtain ⟨e0, e1, e2⟩ := hZz.cells
            have f0 := hZz.frozen 0
            have f1 := hZz.frozen 1
            have f2 := hZz.frozen 2
            obtain ⟨g0, g1, g2⟩ := hCz.cells
            refine wp_region_held_drew (S := fun w' => w'.cell? ⟨Q, 0, none⟩ = some (.int .i64 b.left) ∧ w'.cell? ⟨Q, 1, none⟩ = some (.int .i64 b.right) ∧ w'.cell? ⟨Q, 2, none⟩ = some (.int .i64 b.bell) ∧ OBytes w' (Q + 1) (.slice (some ⟨g, 0, none⟩) L.length cap) ((L.set 0 127))) (by kernel_rfl) ?_ (fun hHeld => ?_)
            · exact ⟨g0, g1, g2, hrS'⟩
            refine wpAnyH_take (i := 0) (v := ?vp40) rfl (by kernel_rfl) (by kernel_rfl) (by kernel_rfl) (fun _ _ _ h => h) (Or.inl ⟨rfl, ?yp40⟩) (by assumption) ?_
            case yp40 => (intro w hSw; (try dsimp only at hSw); go_simp; first | done | with_reducible rfl)
            try simp only [List.getElem_toArray, List.getElem_cons_succ, List.getElem_cons_zero, Act.put, List.setIfInBounds_toArray, List.set_cons_zero, List.set_cons_succ]
            refine wpAnyH_take (i := 1) (v := ?vp41) rfl (by kernel_rfl) (by kernel_rfl) (by kernel_rfl) (fun _ _ _ h => h) (Or.inl ⟨rfl, ?yp41⟩) (by assumption) ?_
            case yp41 => (intro w hSw; (try dsimp only at hSw); go_simp; first | done | with_reducible rfl)
            try simp only [List.getElem_toArray, List.getElem_cons_succ, List.getElem_cons_zero, Act.put, List.setIfInBounds_toArray, List.set_cons_zero, List.set_cons_succ]
            refine wpAnyH_take (i := 2) (v := .string ⟨((L.set 0 127)).toArray⟩) rfl (by kernel_rfl) (by kernel_rfl) (by kernel_rfl) (fun _ _ _ h => h) (Or.inl ⟨rfl, ?yp42⟩) (by assumption) ?_
            case yp42 => (intro w' hSw; have hcv := obytes_conv hSw.2.2.2; (try dsimp only at hSw); go_simp; first | done | with_reducible rfl)
            try simp only [List.getElem_toArray, List.getElem_cons_succ, List.getElem_cons_zero, Act.put, List.setIfInBounds_toArray, List.set_cons_zero, List.set_cons_succ]
            have hgf := (grown_put3 wz Z (.int .i64 b.left) (.int .i64 b.right) (.int .i64 b.bell))
            have hZf0 := CRow.put3 (w := wz) hZz b.left b.right b.bell
            have hCf := CRow.grown (w := wz) hCz hgf (fun e => by cases e; omega)
            refine wpAnyH_ready (rs := [3]) (by kernel_rfl) (by simp) ?_
            refine AllReadyH.cons rfl (fun K hK => ?_) AllReadyH.nil
            go_simp
            refine hK.out _ _ ?_ (fun hHeld => ?_)
            · exact ⟨hCf.cells.1, hCf.cells.2.1, hCf.cells.2.2, owns_block hrS' (fun g' hg' => hgf.block g' ((World.ownsRow.lt hrS' _ hg').2) (fun e => by cases e; have := act_base hrS' _ hg'; omega))⟩
            clear hK K
            try simp only [List.getElem_toArray, List.getElem_cons_succ, List.getElem_cons_zero, Act.put, List.setIfInBounds_toArray, List.set_cons_zero, List.set_cons_succ]
            refine wpAnyH_take (i := 4) (v := ?ve44) rfl (by kernel_rfl) (by kernel_rfl) (by kernel_rfl) (fun _ _ _ h => h) (Or.inl ⟨rfl, ?ye44⟩) (by assumption) ?_
            case ye44 => (intro w hSw; (try dsimp only at hSw); go_simp; first | done | with_reducible rfl)
            try simp only [List.getElem_toArray, List.getElem_cons_succ, List.getElem_cons_zero, Act.put, List.setIfInBounds_toArray, List.set_cons_zero, List.set_cons_succ]
            refine wpAnyH_done (by kernel_rfl) ?_ _
            have hZf : CRow (World.drew ((((wz).setCell ⟨Z, 0, none⟩ (.int .i64 b.left)).setCell ⟨Z, 1, none⟩ (.int .i64 b.right)).setCell ⟨Z, 2, none⟩ (.int .i64 b.bell))) Z ⟨b.left, b.right, b.bell⟩ := hZf0
            have hdf : Below Z w (World.drew ((((wz).setCell ⟨Z, 0, none⟩ (.int .i64 b.left)).setCell ⟨Z, 1, none⟩ (.int .i64 b.right)).setCell ⟨Z, 2, none⟩ (.int .i64 b.bell))) := ⟨hgf.os.trans ((Drawn.os hdS).trans hd3.os), hgf.tape.trans ((Drawn.tape hdS).trans hd3.tape), hgf.output.trans ((Drawn.output hdS).trans hd3.output), Nat.le_trans hd3.size (Nat.le_trans (Drawn.size hdS) hgf.size), fun k hk => (hgf.block k (by have := hZz.lt; omega) (fun e => by cases e; omega)).trans ((Drawn.block hdS k (by omega) (by omega)).trans (hd3.block k hk))⟩
            obtain ⟨z0, z1, z2⟩ := hZf.cells
            have hlz : (⟨((L.set 0 127)).toArray⟩ : ByteArray).size ≤ 301 := by show ((L.set 0 127)).toArray.size ≤ 301; simp; omega
            generalize World.drew ((((wz).setCell ⟨Z, 0, none⟩ (.int .i64 b.left)).setCell ⟨Z, 1, none⟩ (.int .i64 b.right)).setCell ⟨Z, 2, none⟩ (.int .i64 b.bell)) = wf at *
            go_wp2
            (try simp only [Exit.inBlock, Exit.then])
            refine bodyPost_ret (v := .tuple #[.agg #[.int .i64 b.left, .int .i64 b.right, .int .i64 b.bell], .string ⟨((L.set 0 127)).toArray⟩]) (by simp [results, Tryd.results12, go_sem, z0, z1, z2]) rfl ?_
            unfold AFOut
            exact ⟨b, _, rfl, hbg, hlz, hdf⟩
          | false =>
            go_wp2_with fail
            have hCz := hC3.block (Drawn.block hda Q (by omega) (by omega))
            have hZz := hZ3.block (Drawn.block hda Z (by omega) (by omega))
            obtain ⟨e0, e1, e2⟩ := hZz.cells
            have f0 := hZz.frozen 0
            have f1 := hZz.frozen 1
            have f2 := hZz.frozen 2
            obtain ⟨g0, g1, g2⟩ := hCz.cells
            refine wp_region_held_drew (S := fun w' => w'.cell? ⟨Q, 0, none⟩ = some (.int .i64 b.left) ∧ w'.cell? ⟨Q, 1, none⟩ = some (.int .i64 b.right) ∧ w'.cell? ⟨Q, 2, none⟩ = some (.int .i64 b.bell) ∧ OBytes w' (Q + 1) (u6) (L)) (by kernel_rfl) ?_ (fun hHeld => ?_)
            · exact ⟨g0, g1, g2, hrowa⟩
            refine wpAnyH_take (i := 0) (v := ?vp50) rfl (by kernel_rfl) (by kernel_rfl) (by kernel_rfl) (fun _ _ _ h => h) (Or.inl ⟨rfl, ?yp50⟩) (by assumption) ?_
            case yp50 => (intro w hSw; (try dsimp only at hSw); go_simp; first | done | with_reducible rfl)
            try simp only [List.getElem_toArray, List.getElem_cons_succ, List.getElem_cons_zero, Act.put, List.setIfInBounds_toArray, List.set_cons_zero, List.set_cons_succ]
            refine wpAnyH_take (i := 1) (v := ?vp51) rfl (by kernel_rfl) (by kernel_rfl) (by kernel_rfl) (fun _ _ _ h => h) (Or.inl ⟨rfl, ?yp51⟩) (by assumption) ?_
            case yp51 => (intro w hSw; (try dsimp only at hSw); go_simp; first | done | with_reducible rfl)
            try simp only [List.getElem_toArray, List.getElem_cons_succ, List.getElem_cons_zero, Act.put, List.setIfInBounds_toArray, List.set_cons_zero, List.set_cons_succ]
            refine wpAnyH_take (i := 2) (v := .string ⟨(L).toArray⟩) rfl (by kernel_rfl) (by kernel_rfl) (by kernel_rfl) (fun _ _ _ h => h) (Or.inl ⟨rfl, ?yp52⟩) (by assumption) ?_
            case yp52 => (intro w' hSw; have hcv := obytes_conv hSw.2.2.2; (try dsimp only at hSw); go_simp; first | done | with_reducible rfl)
            try simp only [List.getElem_toArray, List.getElem_cons_succ, List.getElem_cons_zero, Act.put, List.setIfInBounds_toArray, List.set_cons_zero, List.set_cons_succ]
            have hgf := (grown_put3 wa Z (.int .i64 b.left) (.int .i64 b.right) (.int .i64 b.bell))
            have hZf0 := CRow.put3 (w := wa) hZz b.left b.right b.bell
            have hCf := CRow.grown (w := wa) hCz hgf (fun e => by cases e; omega)
            refine wpAnyH_ready (rs := [3]) (by kernel_rfl) (by simp) ?_
            refine AllReadyH.cons rfl (fun K hK => ?_) AllReadyH.nil
            go_simp
            refine hK.out _ _ ?_ (fun hHeld => ?_)
            · exact ⟨hCf.cells.1, hCf.cells.2.1, hCf.cells.2.2, owns_block hrowa (fun g' hg' => hgf.block g' ((World.ownsRow.lt hrowa _ hg').2) (fun e => by cases e; have := act_base hrowa _ hg'; omega))⟩
            clear hK K
            try simp only [List.getElem_toArray, List.getElem_cons_succ, List.getElem_cons_zero, Act.put, List.setIfInBounds_toArray, List.set_cons_zero, List.set_cons_succ]
            refine wpAnyH_take (i := 4) (v := ?ve54) rfl (by kernel_rfl) (by kernel_rfl) (by kernel_rfl) (fun _ _ _ h => h) (Or.inl ⟨rfl, ?ye54⟩) (by assumption) ?_
            case ye54 => (intro w hSw; (try dsimp only at hSw); go_simp; first | done | with_reducible rfl)
            try simp only [List.getElem_toArray, List.getElem_cons_succ, List.getElem_cons_zero, Act.put, List.setIfInBounds_toArray, List.set_cons_zero, List.set_cons_succ]
            refine wpAnyH_done (by kernel_rfl) ?_ _
            have hZf : CRow (World.drew ((((wa).setCell ⟨Z, 0, none⟩ (.int .i64 b.left)).setCell ⟨Z, 1, none⟩ (.int .i64 b.right)).setCell ⟨Z, 2, none⟩ (.int .i64 b.bell))) Z ⟨b.left, b.right, b.bell⟩ := hZf0
            have hdf : Below Z w (World.drew ((((wa).setCell ⟨Z, 0, none⟩ (.int .i64 b.left)).setCell ⟨Z, 1, none⟩ (.int .i64 b.right)).setCell ⟨Z, 2, none⟩ (.int .i64 b.bell))) := ⟨hgf.os.trans ((Drawn.os hda).trans hd3.os), hgf.tape.trans ((Drawn.tape hda).trans hd3.tape), hgf.output.trans ((Drawn.output hda).trans hd3.output), Nat.le_trans hd3.size (Nat.le_trans (Drawn.size hda) hgf.size), fun k hk => (hgf.block k (by have := hZz.lt; omega) (fun e => by cases e; omega)).trans ((Drawn.block hda k (by omega) (by omega)).trans (hd3.block k hk))⟩
            obtain ⟨z0, z1, z2⟩ := hZf.cells
            have hlz : (⟨(L).toArray⟩ : ByteArray).size ≤ 301 := by show (L).toArray.size ≤ 301; simp; omega
            generalize World.drew ((((wa).setCell ⟨Z, 0, none⟩ (.int .i64 b.left)).setCell ⟨Z, 1, none⟩ (.int .i64 b.right)).setCell ⟨Z, 2, none⟩ (.int .i64 b.bell)) = wf at *
            go_wp2
            (try simp only [Exit.inBlock, Exit.then])
            refine bodyPost_ret (v := .tuple #[.agg #[.int .i64 b.left, .int .i64 b.right, .int .i64 b.bell], .string ⟨(L).toArray⟩]) (by simp [results, Tryd.results12, go_sem, z0, z1, z2]) rfl ?_
            unfold AFOut
            exact ⟨b, _, rfl, hbg, hlz, hdf⟩
        · have gm : decide ((0 : Int) < (L.length : Int)) = false := decide_eq_false (by omega)
          go_wp2_with fail
          have hCz := hC3.block (Drawn.block hd Q (by omega) (by omega))
          have hZz := hZ3.block (Drawn.block hd Z (by omega) (by omega))
          obtain ⟨e0, e1, e2⟩ := hZz.cells
          have f0 := hZz.frozen 0
          have f1 := hZz.frozen 1
          have f2 := hZz.frozen 2
          obtain ⟨g0, g1, g2⟩ := hCz.cells
          refine wp_region_held_drew (S := fun w' => w'.cell? ⟨Q, 0, none⟩ = some (.int .i64 b.left) ∧ w'.cell? ⟨Q, 1, none⟩ = some (.int .i64 b.right) ∧ w'.cell? ⟨Q, 2, none⟩ = some (.int .i64 b.bell) ∧ OBytes w' (Q + 1) (u6) (L)) (by kernel_rfl) ?_ (fun hHeld => ?_)
          · exact ⟨g0, g1, g2, hrow⟩
          refine wpAnyH_take (i := 0) (v := ?vp60) rfl (by kernel_rfl) (by kernel_rfl) (by kernel_rfl) (fun _ _ _ h => h) (Or.inl ⟨rfl, ?yp60⟩) (by assumption) ?_
          case yp60 => (intro w hSw; (try dsimp only at hSw); go_simp; first | done | with_reducible rfl)
          try simp only [List.getElem_toArray, List.getElem_cons_succ, List.getElem_cons_zero, Act.put, List.setIfInBounds_toArray, List.set_cons_zero, List.set_cons_succ]
          refine wpAnyH_take (i := 1) (v := ?vp61) rfl (by kernel_rfl) (by kernel_rfl) (by kernel_rfl) (fun _ _ _ h => h) (Or.inl ⟨rfl, ?yp61⟩) (by assumption) ?_
          case yp61 => (intro w hSw; (try dsimp only at hSw); go_simp; first | done | with_reducible rfl)
          try simp only [List.getElem_toArray, List.getElem_cons_succ, List.getElem_cons_zero, Act.put, List.setIfInBounds_toArray, List.set_cons_zero, List.set_cons_succ]
          refine wpAnyH_take (i := 2) (v := .string ⟨(L).toArray⟩) rfl (by kernel_rfl) (by kernel_rfl) (by kernel_rfl) (fun _ _ _ h => h) (Or.inl ⟨rfl, ?yp62⟩) (by assumption) ?_
          case yp62 => (intro w' hSw; have hcv := obytes_conv hSw.2.2.2; (try dsimp only at hSw); go_simp; first | done | with_reducible rfl)
          try simp only [List.getElem_toArray, List.getElem_cons_succ, List.getElem_cons_zero, Act.put, List.setIfInBounds_toArray, List.set_cons_zero, List.set_cons_succ]
          have hgf := (grown_put3 wr Z (.int .i64 b.left) (.int .i64 b.right) (.int .i64 b.bell))
          have hZf0 := CRow.put3 (w := wr) hZz b.left b.right b.bell
          have hCf := CRow.grown (w := wr) hCz hgf (fun e => by cases e; omega)
          refine wpAnyH_ready (rs := [3]) (by kernel_rfl) (by simp) ?_
          refine AllReadyH.cons rfl (fun K hK => ?_) AllReadyH.nil
          go_simp
          refine hK.out _ _ ?_ (fun hHeld => ?_)
          · exact ⟨hCf.cells.1, hCf.cells.2.1, hCf.cells.2.2, owns_block hrow (fun g' hg' => hgf.block g' ((World.ownsRow.lt hrow _ hg').2) (fun e => by cases e; have := act_base hrow _ hg'; omega))⟩
          clear hK K
          try simp only [List.getElem_toArray, List.getElem_cons_succ, List.getElem_cons_zero, Act.put, List.setIfInBounds_toArray, List.set_cons_zero, List.set_cons_succ]
          refine wpAnyH_take (i := 4) (v := ?ve64) rfl (by kernel_rfl) (by kernel_rfl) (by kernel_rfl) (fun _ _ _ h => h) (Or.inl ⟨rfl, ?ye64⟩) (by assumption) ?_
          case ye64 => (intro w hSw; (try dsimp only at hSw); go_simp; first | done | with_reducible rfl)
          try simp only [List.getElem_toArray, List.getElem_cons_succ, List.getElem_cons_zero, Act.put, List.setIfInBounds_toArray, List.set_cons_zero, List.set_cons_succ]
          refine wpAnyH_done (by kernel_rfl) ?_ _
          have hZf : CRow (World.drew ((((wr).setCell ⟨Z, 0, none⟩ (.int .i64 b.left)).setCell ⟨Z, 1, none⟩ (.int .i64 b.right)).setCell ⟨Z, 2, none⟩ (.int .i64 b.bell))) Z ⟨b.left, b.right, b.bell⟩ := hZf0
          have hdf : Below Z w (World.drew ((((wr).setCell ⟨Z, 0, none⟩ (.int .i64 b.left)).setCell ⟨Z, 1, none⟩ (.int .i64 b.right)).setCell ⟨Z, 2, none⟩ (.int .i64 b.bell))) := ⟨hgf.os.trans ((Drawn.os hd).trans hd3.os), hgf.tape.trans ((Drawn.tape hd).trans hd3.tape), hgf.output.trans ((Drawn.output hd).trans hd3.output), Nat.le_trans hd3.size (Nat.le_trans (Drawn.size hd) hgf.size), fun k hk => (hgf.block k (by have := hZz.lt; omega) (fun e => by cases e; omega)).trans ((Drawn.block hd k (by omega) (by omega)).trans (hd3.block k hk))⟩
          obtain ⟨z0, z1, z2⟩ := hZf.cells
          have hlz : (⟨(L).toArray⟩ : ByteArray).size ≤ 301 := by show (L).toArray.size ≤ 301; simp; omega
          generalize World.drew ((((wr).setCell ⟨Z, 0, none⟩ (.int .i64 b.left)).setCell ⟨Z, 1, none⟩ (.int .i64 b.right)).setCell ⟨Z, 2, none⟩ (.int .i64 b.bell)) = wf at *
          go_wp2
          (try simp only [Exit.inBlock, Exit.then])
          refine bodyPost_ret (v := .tuple #[.agg #[.int .i64 b.left, .int .i64 b.right, .int .i64 b.bell], .string ⟨(L).toArray⟩]) (by simp [results, Tryd.results12, go_sem, z0, z1, z2]) rfl ?_
          unfold AFOut
          exact ⟨b, _, rfl, hbg, hlz, hdf⟩
end Go.Proofs.YtiopeheockajaaaDoor
