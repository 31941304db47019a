/- The lists of stops, made by the program. -/
import Derived.Test.YtcmmcgjpaabnoaaSl0
namespace Go.Proofs.Ytcmmcgjpaabnoaa
open Go.RowKit Go.ChangeShapes Go.WideShapes Go.Deep
set_option linter.unusedVariables false
set_option linter.unusedSimpArgs false

theorem one9s (A : Option Addr) (n c : Nat) : ∀ u ∈ [Value.slice A n c], u.oneCell' = true := by
  intro u hu
  simp only [List.mem_cons, List.not_mem_nil, or_false] at hu
  rcases hu with rfl; rfl
theorem owns_monoS {w : World} {base base' : Nat} {E : TypeId} {size n : Nat} {v : Value} {xs : List Value} (h : w.ownsRow base E size v n xs) (hb : base' ≤ base) : w.ownsRow base' E size v n xs := by
  obtain ⟨h1, h2 | ⟨g', cap, cur, h3, h4, h5⟩⟩ := h
  · exact ⟨h1, .inl h2⟩
  · exact ⟨h1, .inr ⟨g', cap, cur, h3, Nat.le_trans hb h4, h5⟩⟩
set_option maxRecDepth 100000 in
set_option maxHeartbeats 3200000 in
theorem slW11 (q0 : Nat) (hq0 : q0 ≤ 2) (w : World) :
    Calls Try.prog 60 #[.int .i64 (q0 : Int)] w fun e w' => ∃ A c rs, e = .returned (.slice A rs.length c) ∧ ORow 22 1 RowD.cells w' w.heap.size A rs.length rs ∧ RowsOk w' w.heap.size rs (allL q0 1) ∧ Below w.heap.size w w' := by
  obtain ⟨i0, hi, hz0, hz1, hz2⟩ := info_parts Try.infoIntS
  go_enter Try.func60, Try.ntmps60
  go_wp2
  go_loopw [3, 4, 6, 7, 8, 11] (fun lv _ _ _ _ i wr => ∃ (q : Nat) (rs : List RowD), q ≤ q0 ∧ i = .int .i64 (q : Int) ∧ wr.ownsRow w.heap.size 22 1 lv rs.length (rs.flatMap RowD.cells) ∧ RowsOk wr w.heap.size rs (allL q 1) ∧ Below w.heap.size w wr) (fun _ _ _ _ _ i _ => q0 - (intOf i).toNat)
  case atStart =>
    refine ⟨0, [⟨none, 0, 0⟩], by omega, rfl, ⟨rfl, .inr ⟨w.heap.size, 1, #[.slice none 0 0], rfl, Nat.le_refl _, heap_alloc_new _ _, Nat.le_refl _, by unfold maxLen; omega, rfl, rfl⟩⟩, ?_, below_a1 _ _⟩
    exact (RowsOk.nil _ _).snoc (r := ⟨none, 0, 0⟩) (xs := []) ORow.nil_
  case round =>
    rename World => wr
    obtain ⟨q, rs, hq, rfl, hrow, hok, hbw⟩ := hrel
    obtain ⟨A, c, rfl, hO⟩ := ORow.of_owns (cells := RowD.cells) (fun _ => rfl) hrow
    have hsz := hbw.size
    clear hrow
    by_cases hlt : q < q0
    · have hq1 : q ≤ 1 := by omega
      have hk1 : (q : Int) < (q0 : Int) := by omega
      have hfew := allL_few (m := q) (by omega)
      have hrl := hok.1
      have hwx : IntKind.i64.wrap ((q : Int) + 1) = ((q + 1 : Nat) : Int) := by rw [IntWalk.i64_in _ (by omega)]; omega
      replace hok := Lib.hid hok
      replace hO := Lib.hid hO
      go_wp2
      go_loopw [4, 6, 7, 8, 15] (fun v _ _ _ i wi => ∃ (k : Nat) (rs2 : List RowD), k ≤ rs.length ∧ i = .int .i64 (k : Int) ∧ wi.ownsRow wr.heap.size 22 1 v rs2.length (rs2.flatMap RowD.cells) ∧ RowsOk wi wr.heap.size rs2 (((allL q 1).take k).flatMap (extS 1)) ∧ Below wr.heap.size wr wi) (fun _ _ _ _ i _ => rs.length - (intOf i).toNat)
      case atStart => exact ⟨0, [], by omega, rfl, owns_nil8 _ _ _, RowsOk.nil _ _, Below.refl _ _⟩
      case round =>
        rename World => wi
        obtain ⟨k, rs2, hk, rfl, hrow2, hok2, hbw2⟩ := hrel
        have hsz2 := hbw2.size
        replace hok2 := Lib.hid hok2
        replace hrow2 := Lib.hid hrow2
        by_cases hlk : k < rs.length
        · obtain ⟨b, off, ⟨xA, xn, xc⟩, rfl, hb, hx, hcell⟩ := (hO.out.srow.below hbw2).at_ hlk
          have c0 := hcell 0 _ rfl
          rw [Nat.mul_one, Nat.add_zero] at c0
          have hlL : k < (allL q 1).length := by omega
          obtain ⟨L, hL⟩ : ∃ L, (allL q 1)[k]? = some L := ⟨_, List.getElem?_eq_getElem hlL⟩
          have hOI := hok.out.2 k _ _ hx hL
          obtain ⟨f1, f2, f3, f4⟩ := allL_in q 1 (by omega) L (List.mem_of_getElem? hL)
          have hxn : xn = q := by have := hOI.1; simp only at this; omega
          have hI := Lib.hid (ORow.srow hOI)
          have hIl : Hid (L.length = xn) := Lib.hid hOI.1
          have hxL := Lib.hid hL
          have hk0 : (0 : Int) ≤ (k : Int) := Int.natCast_nonneg _
          have hk2 : (k : Int) < (rs.length : Int) := by omega
          have c0' : wi.cell? ⟨b, off + k, none⟩ = some (.slice xA xn xc) := c0
          clear hcell c0 hOI hL
          by_cases hz : q = 0
          · subst hz
            subst hxn
            have hL0 : L = [] := List.eq_nil_of_length_eq_zero f1
            subst hL0
            have hnx : Hid (nextS 1 ([] : List Int) = 1) := Lib.hid rfl
            clear f1 f2 f3 f4
            go_wp2
            go_loopw [4, 8] (fun v s wq => ∃ (j : Nat) (rs3 : List RowD), j ≤ 31 - 1 ∧ s = .int .i64 ((1 + j : Nat) : Int) ∧ wq.ownsRow wr.heap.size 22 1 v rs3.length (rs3.flatMap RowD.cells) ∧ Hid (RowsOk wq wr.heap.size rs3 (((allL 0 1).take k).flatMap (extS 1) ++ (List.range' 1 j).map (fun (c : Nat) => ([] : List Int) ++ [(c : Int)]))) ∧ Below wr.heap.size wr wq) (fun _ s _ => 31 - (intOf s).toNat)
            case atStart => exact ⟨0, rs2, by omega, rfl, hrow2.out, Lib.hid (by simpa using hok2.out), hbw2⟩
            case round =>
              rename World => wq
              obtain ⟨j, rs3, hj, rfl, hrow3, hok3, hbw3⟩ := hrel
              have hszq := hbw3.size
              by_cases hle : 1 + j ≤ 30
              · have hIq := (hI.out.below hbw3)
                have hl3 : rs3.length ≤ 30000 := by
                  have e1 := hok3.out.1
                  have e2 := ext_flat_len ((allL 0 1).take k)
                  rw [List.length_append, List.length_map, List.length_range'] at e1
                  rw [List.length_take] at e2
                  have e3 := hfew
                  omega
                have hsn : Hid (((allL 0 1).take k).flatMap (extS 1) ++ (List.range' 1 (j + 1)).map (fun (c : Nat) => ([] : List Int) ++ [(c : Int)]) = (((allL 0 1).take k).flatMap (extS 1) ++ (List.range' 1 j).map (fun (c : Nat) => ([] : List Int) ++ [(c : Int)])) ++ [([] : List Int) ++ [((1 + j : Nat) : Int)]]) := Lib.hid (by
                  rw [List.range'_concat, List.map_append, List.append_assoc, Nat.one_mul]; rfl)
                obtain ⟨s, hs⟩ : ∃ s : Nat, 1 + j = s := ⟨_, rfl⟩
                rw [hs] at hsn ⊢
                have hs1 : s ≤ 30 := by omega
                have hs2 : (s : Int) ≤ 30 := by omega
                have hwx : IntKind.i64.wrap ((s : Int) + 1) = ((s + 1 : Nat) : Int) := by rw [IntWalk.i64_in _ (by omega)]; omega
                replace hs := Lib.hid hs
                have hrw3 := Lib.hid hrow3
                clear hrow3
                go_wp2_with fail
                refine (concat8 (some ⟨wq.heap.size + 1, 0, none⟩) 2 2 [([] : List Int), [(s : Int)]] _ (iss2s (T := 22) (A := xA) (B := some ⟨wq.heap.size, 0, none⟩) (a := 0) (b := 1) (a' := xc) (b' := 1) (by
                    rw [← World.size_alloc wq (.cells #[.int .i64 (s : Int)] 2)]; exact heap_alloc_new _ _) (hIq.below (below_a2 _ _ _)) ⟨rfl, fun _ => ⟨wq.heap.size, 0, rfl, by simp; omega, fun i x hx j u hu => by
                      match i, hx with
                      | 0, hx =>
                        cases hx
                        match j, hu with
                        | 0, hu => cases hu; exact cell_on (cell_new rfl rfl) _
                        | j + 1, hu => simp [intC] at hu
                      | i + 1, hx => simp at hx⟩⟩ (by omega) (by omega)) (by omega) (by simp [tot])).mono ?_
                rintro e w5 ⟨A', n', c', rfl, hcap, hO, hb5⟩
                have hb35 := (below_a2 wq _ _).step hb5
                have hz5 := hb35.size
                have hE : Hid ([([] : List Int), [(s : Int)]].flatten = ([] : List Int) ++ [(s : Int)]) := Lib.hid (by simp)
                rw [hE.out] at hO
                have hO5 : OInts w5 wr.heap.size A' n' (([] : List Int) ++ [(s : Int)]) := ORow.mono hO (by simp <;> omega)
                have hrl := Lib.hid (owns_blk hrw3.out hb35)
                have hok5 := Lib.hid (hok3.out.below hb35)
                replace hO5 := Lib.hid hO5
                clear hO hb5 hE hrw3 hok3
                go_wp2_with (at_builtin; refine wpList_append_own _ rfl _ _ 86 rfl wr.heap.size 22 i0 _ 1 24 Try.underlying86 hi hz0 hz1 hz2 rfl (by decide) _ _ _ rfl (hrl.out.alloc _) ⟨w5.heap.size, 0, none⟩ 1 1 [.slice A' n' c'] rfl rfl (news8 _ _ _) (one9s _ _ _) (by unfold maxLen; omega) (by omega) (by simp; omega) ?_)
                intro vq w6 hownq hgrq hnilq
                have hgqq := grown_trans (grown_below (below_a1 w5 _) _) hgrq
                have hb6 := Lib.hid ((hbw3.trans (hb35.mono hszq)).grown hgqq (by omega) (fun j hj => owns_ge8 hrl.out hj))
                have hok6 := Lib.hid ((hok5.out.to (fun _ _ _ h9 => row_apart hrl.out h9 hgqq)).snoc (r := ⟨A', n', c'⟩) (row_apart hrl.out hO5.out hgqq))
                have hown6 : Hid (w6.ownsRow wr.heap.size 22 1 vq (rs3 ++ [(⟨A', n', c'⟩ : RowD)]).length ((rs3 ++ [(⟨A', n', c'⟩ : RowD)]).flatMap RowD.cells)) := Lib.hid (by
                  rw [List.length_append, List.flatMap_append]; exact hownq)
                clear hownq hgrq hnilq hgqq hrl hok5 hO5 hb35 hbw3
                go_wp2
                go_roundw
                case rel => exact ⟨j + 1, rs3 ++ [⟨A', n', c'⟩], by omega, by rw [show 1 + (j + 1) = s + 1 by have := hs.out; omega]; first | rfl | go_num, hown6.out, Lib.hid (by rw [hsn.out]; exact hok6.out), hb6.out⟩
                case measure => simp [intOf]; omega
              · obtain rfl : j = 31 - 1 := by omega
                have hs2 : ¬ ((1 + (31 - 1) : Nat) : Int) ≤ 30 := by omega
                obtain ⟨s, hs⟩ : ∃ s : Nat, 1 + (31 - 1) = s := ⟨_, rfl⟩
                rw [hs] at hs2 ⊢
                have hdn : Hid (RowsOk wq wr.heap.size rs3 (((allL 0 1).take (k + 1)).flatMap (extS 1))) := Lib.hid (by
                  rw [take8 hxL.out, List.flatMap_append]
                  have e1 : extS 1 ([] : List Int) = (List.range' 1 (31 - 1)).map (fun (c : Nat) => ([] : List Int) ++ [(c : Int)]) := by rw [extS, hnx.out]
                  rw [List.flatMap_cons, List.flatMap_nil, List.append_nil, e1]
                  exact hok3.out)
                replace hs := Lib.hid hs
                have hrw3 := Lib.hid hrow3
                clear hrow3 hok3
                go_wp2
                go_roundw
                case rel => exact ⟨_, _, _, _, _, ⟨k + 1, by omega, by go_num, rs3, hrw3.out, hdn.out⟩, rfl, rfl, rfl, rfl, rfl⟩
                case measure => simp [intOf]; omega
          · obtain rfl : q = 1 := by omega
            subst hxn
            obtain ⟨y, rfl⟩ : ∃ y, L = [y] := List.length_eq_one_iff.1 f1
            have f5 := f4 y (by simp)
            obtain ⟨g, rfl⟩ : ∃ g : Nat, y = (g : Int) := ⟨y.toNat, by omega⟩
            have hg1 : 1 ≤ g := by omega
            have hg30 : g ≤ 30 := by omega
            obtain ⟨b3, o3, x3, rfl, hb3, hx3, d0⟩ := int_at (hI.out.below hbw2) (show 0 < 1 by omega)
            have hx4 := hx3.out
            simp only [List.getElem?_cons_zero, Option.some.injEq] at hx4
            subst hx4
            rw [Nat.add_zero] at d0
            have hwg : IntKind.i64.wrap ((g : Int) + 1) = ((g + 1 : Nat) : Int) := by rw [IntWalk.i64_in _ (by omega)]; omega
            have hnx : Hid (nextS 1 [(g : Int)] = g + 1) := Lib.hid (by simp [nextS])
            clear f1 f2 f3 f4 f5 hx3
            go_wp2
            go_loopw [4, 8] (fun v s wq => ∃ (j : Nat) (rs3 : List RowD), j ≤ 31 - (g + 1) ∧ s = .int .i64 (((g + 1) + j : Nat) : Int) ∧ wq.ownsRow wr.heap.size 22 1 v rs3.length (rs3.flatMap RowD.cells) ∧ Hid (RowsOk wq wr.heap.size rs3 (((allL 1 1).take k).flatMap (extS 1) ++ (List.range' (g + 1) j).map (fun (c : Nat) => [(g : Int)] ++ [(c : Int)]))) ∧ Below wr.heap.size wr wq) (fun _ s _ => 31 - (intOf s).toNat)
            case atStart => exact ⟨0, rs2, by omega, rfl, hrow2.out, Lib.hid (by simpa using hok2.out), hbw2⟩
            case round =>
              rename World => wq
              obtain ⟨j, rs3, hj, rfl, hrow3, hok3, hbw3⟩ := hrel
              have hszq := hbw3.size
              by_cases hle : (g + 1) + j ≤ 30
              · have hIq := (hI.out.below hbw3)
                have hl3 : rs3.length ≤ 30000 := by
                  have e1 := hok3.out.1
                  have e2 := ext_flat_len ((allL 1 1).take k)
                  rw [List.length_append, List.length_map, List.length_range'] at e1
                  rw [List.length_take] at e2
                  have e3 := hfew
                  omega
                have hsn : Hid (((allL 1 1).take k).flatMap (extS 1) ++ (List.range' (g + 1) (j + 1)).map (fun (c : Nat) => [(g : Int)] ++ [(c : Int)]) = (((allL 1 1).take k).flatMap (extS 1) ++ (List.range' (g + 1) j).map (fun (c : Nat) => [(g : Int)] ++ [(c : Int)])) ++ [[(g : Int)] ++ [(((g + 1) + j : Nat) : Int)]]) := Lib.hid (by
                  rw [List.range'_concat, List.map_append, List.append_assoc, Nat.one_mul]; rfl)
                obtain ⟨s, hs⟩ : ∃ s : Nat, (g + 1) + j = s := ⟨_, rfl⟩
                rw [hs] at hsn ⊢
                have hs1 : s ≤ 30 := by omega
                have hs2 : (s : Int) ≤ 30 := by omega
                have hwx : IntKind.i64.wrap ((s : Int) + 1) = ((s + 1 : Nat) : Int) := by rw [IntWalk.i64_in _ (by omega)]; omega
                replace hs := Lib.hid hs
                have hrw3 := Lib.hid hrow3
                clear hrow3
                go_wp2_with fail
                refine (concat8 (some ⟨wq.heap.size + 1, 0, none⟩) 2 2 [[(g : Int)], [(s : Int)]] _ (iss2s (T := 22) (A := (some ⟨b3, o3, none⟩)) (B := some ⟨wq.heap.size, 0, none⟩) (a := 1) (b := 1) (a' := xc) (b' := 1) (by
                    rw [← World.size_alloc wq (.cells #[.int .i64 (s : Int)] 2)]; exact heap_alloc_new _ _) (hIq.below (below_a2 _ _ _)) ⟨rfl, fun _ => ⟨wq.heap.size, 0, rfl, by simp; omega, fun i x hx j u hu => by
                      match i, hx with
                      | 0, hx =>
                        cases hx
                        match j, hu with
                        | 0, hu => cases hu; exact cell_on (cell_new rfl rfl) _
                        | j + 1, hu => simp [intC] at hu
                      | i + 1, hx => simp at hx⟩⟩ (by omega) (by omega)) (by omega) (by simp [tot])).mono ?_
                rintro e w5 ⟨A', n', c', rfl, hcap, hO, hb5⟩
                have hb35 := (below_a2 wq _ _).step hb5
                have hz5 := hb35.size
                have hE : Hid ([[(g : Int)], [(s : Int)]].flatten = [(g : Int)] ++ [(s : Int)]) := Lib.hid (by simp)
                rw [hE.out] at hO
                have hO5 : OInts w5 wr.heap.size A' n' ([(g : Int)] ++ [(s : Int)]) := ORow.mono hO (by simp <;> omega)
                have hrl := Lib.hid (owns_blk hrw3.out hb35)
                have hok5 := Lib.hid (hok3.out.below hb35)
                replace hO5 := Lib.hid hO5
                clear hO hb5 hE hrw3 hok3
                go_wp2_with (at_builtin; refine wpList_append_own _ rfl _ _ 86 rfl wr.heap.size 22 i0 _ 1 24 Try.underlying86 hi hz0 hz1 hz2 rfl (by decide) _ _ _ rfl (hrl.out.alloc _) ⟨w5.heap.size, 0, none⟩ 1 1 [.slice A' n' c'] rfl rfl (news8 _ _ _) (one9s _ _ _) (by unfold maxLen; omega) (by omega) (by simp; omega) ?_)
                intro vq w6 hownq hgrq hnilq
                have hgqq := grown_trans (grown_below (below_a1 w5 _) _) hgrq
                have hb6 := Lib.hid ((hbw3.trans (hb35.mono hszq)).grown hgqq (by omega) (fun j hj => owns_ge8 hrl.out hj))
                have hok6 := Lib.hid ((hok5.out.to (fun _ _ _ h9 => row_apart hrl.out h9 hgqq)).snoc (r := ⟨A', n', c'⟩) (row_apart hrl.out hO5.out hgqq))
                have hown6 : Hid (w6.ownsRow wr.heap.size 22 1 vq (rs3 ++ [(⟨A', n', c'⟩ : RowD)]).length ((rs3 ++ [(⟨A', n', c'⟩ : RowD)]).flatMap RowD.cells)) := Lib.hid (by
                  rw [List.length_append, List.flatMap_append]; exact hownq)
                clear hownq hgrq hnilq hgqq hrl hok5 hO5 hb35 hbw3
                go_wp2
                go_roundw
                case rel => exact ⟨j + 1, rs3 ++ [⟨A', n', c'⟩], by omega, by rw [show (g + 1) + (j + 1) = s + 1 by have := hs.out; omega]; first | rfl | go_num, hown6.out, Lib.hid (by rw [hsn.out]; exact hok6.out), hb6.out⟩
                case measure => simp [intOf]; omega
              · obtain rfl : j = 31 - (g + 1) := by omega
                have hs2 : ¬ (((g + 1) + (31 - (g + 1)) : Nat) : Int) ≤ 30 := by omega
                obtain ⟨s, hs⟩ : ∃ s : Nat, (g + 1) + (31 - (g + 1)) = s := ⟨_, rfl⟩
                rw [hs] at hs2 ⊢
                have hdn : Hid (RowsOk wq wr.heap.size rs3 (((allL 1 1).take (k + 1)).flatMap (extS 1))) := Lib.hid (by
                  rw [take8 hxL.out, List.flatMap_append]
                  have e1 : extS 1 [(g : Int)] = (List.range' (g + 1) (31 - (g + 1))).map (fun (c : Nat) => [(g : Int)] ++ [(c : Int)]) := by rw [extS, hnx.out]
                  rw [List.flatMap_cons, List.flatMap_nil, List.append_nil, e1]
                  exact hok3.out)
                replace hs := Lib.hid hs
                have hrw3 := Lib.hid hrow3
                clear hrow3 hok3
                go_wp2
                go_roundw
                case rel => exact ⟨_, _, _, _, _, ⟨k + 1, by omega, by go_num, rs3, hrw3.out, hdn.out⟩, rfl, rfl, rfl, rfl, rfl⟩
                case measure => simp [intOf]; omega
        · obtain rfl : k = rs.length := by omega
          have hdn : Hid (RowsOk wi wr.heap.size rs2 (allL (q + 1) 1)) := Lib.hid (by
            rw [allL_snoc]
            have := hok2.out
            rw [List.take_of_length_le (by omega)] at this
            exact this)
          go_wp2
          go_roundw
          case rel => exact ⟨q + 1, rs2, by omega, by go_num, owns_monoS hrow2.out hsz, hdn.out.to (fun _ _ _ h9 => ORow.mono h9 hsz), hbw.trans (hbw2.mono hsz)⟩
          case measure => simp [intOf]; omega
    · obtain rfl : q = q0 := by omega
      go_wp2
      go_ret
      exact ⟨A, c, rs, rfl, hO, hok, hbw⟩
end Go.Proofs.Ytcmmcgjpaabnoaa
