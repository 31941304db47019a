/- What the program finds of several letters in a layout; SpotOfLetter. -/
import Derived.Test.YticggclpaalhgaaSpot
import Derived.Test.YticggclpaalhgaaLet0
import Derived.OwnWalk
import Derived.Laws.OwnMore
namespace Go.Proofs.Yticggclpaalhgaa
open Go.RowKit Go.ChangeMaps Go.MapKept
set_option linter.unusedVariables false
set_option linter.unusedSimpArgs false

def pairC (p : Nat × Nat) : List Value := [.int .i64 (p.1 : Int), .int .i64 (p.2 : Int)]
def flR (xs ls : List ByteArray) : List (Nat × Nat) × Int :=
  if layOk xs = true then (if ls.all isLet = true then (if (ls.all fun s => (spotOf xs s).isSome) = true then (ls.map fun s => (spotOf xs s).getD (0, 0), 0) else ([], 3)) else ([], 2)) else ([], 1)
def FlOut (r : List (Nat × Nat) × Int) (w : World) (e : Ending) (w' : World) : Prop :=
  ∃ v, e = .returned (.tuple #[v, .int .i64 r.2]) ∧ w'.ownsRow w.heap.size 61 2 v r.1.length (r.1.flatMap pairC) ∧ Below w.heap.size w w'
theorem Try.infoSpot : (Try.prog.info? 61).map (fun i => (i.zero, i.size, i.bytes)) = some (some (.agg #[.int .i64 0, .int .i64 0]), 2, 16) := by kernel_rfl
theorem own_ge {w : World} {base : Nat} {E : TypeId} {size n g : Nat} {v : Value} {xs : List Value} (h : w.ownsRow base E size v n xs) (hg : v.ownBlock = some g) : base ≤ g := by
  obtain ⟨_, ⟨rfl, _⟩ | ⟨g', cap, cur, rfl, hb, _⟩⟩ := h
  · cases hg
  · cases hg; exact hb
theorem own_mono {w : World} {base base' : Nat} {E : TypeId} {size n : Nat} {v : Value} {xs : List Value} (h : w.ownsRow base E size v n xs) (hb : base' ≤ base) : w.ownsRow base' E size v n xs := by
  obtain ⟨h1, h2 | ⟨g', cap, cur, h3, h4, h5⟩⟩ := h
  · exact ⟨h1, .inl h2⟩
  · exact ⟨h1, .inr ⟨g', cap, cur, h3, by omega, h5⟩⟩
theorem ofs_map {xs : List ByteArray} {M : Nat} {w : World} (z : UInt8) : (valOf z (spotL6 (keysFrom 0 xs))) = (look6 z (keysFrom 0 xs)).map spotV6 := val_spot6 z _
theorem fl_snoc (l : List (Nat × Nat)) (p : Nat × Nat) : (l ++ [p]).flatMap pairC = l.flatMap pairC ++ [.int .i64 (p.1 : Int), .int .i64 (p.2 : Int)] := by simp [pairC]

set_option maxRecDepth 100000 in
set_option maxHeartbeats 1600000 in
theorem find_any (A : Option Addr) (n c : Nat) (xs : List ByteArray) (B : Option Addr) (m d : Nat) (ls : List ByteArray) (w : World) (h : Strs w A n xs) (hn : n ≤ 1048576) (hs : ∀ x ∈ xs, x.size ≤ 1048576) (hB : Strs w B m ls) (hm : m ≤ 2) (hs' : ∀ x ∈ ls, x.size ≤ 1048576) :
    Calls Try.prog 58 #[.agg #[.slice A n c], .slice B m d] w (FlOut (flR xs ls) w) := by
  generalize hr : flR xs ls = r
  replace hr := Lib.hid hr.symm
  have hb0 := Lib.hid (below_a1 w (.cells #[.slice A n c] 27))
  have hS := h.below hb0.out
  have hll := Lib.hid hB.1
  have hq := Lib.hid (spotsOf_any A n c xs _ hS hn hs)
  replace hs' := Lib.hid hs'
  obtain ⟨i0, hi, hz0, hz1, hz2⟩ := info_parts Try.infoSpot
  go_enter Try.func58, Try.ntmps58
  go_wp2_with fail
  refine hq.out.mono ?_
  rintro e w1 (⟨h1, M, rfl, hM0, hM1, hb1⟩ | ⟨h1, rfl, hb1⟩)
  · have hbw := Lib.hid (hb0.out.step hb1)
    have hB1 := hB.below hbw.out
    have hr1 : Hid (r = if ls.all isLet = true then (if (ls.all fun s => (spotOf xs s).isSome) = true then (ls.map fun s => (spotOf xs s).getD (0, 0), 0) else ([], 3)) else ([], 2)) := Lib.hid (by rw [hr.out]; simp only [flR, h1, if_true])
    replace hM1 := Lib.hid hM1
    clear h1 hr hb1 h hS hq
    go_wp2
    go_loop [9, 24] (fun _ i => ∃ k : Nat, k ≤ m ∧ i = .int .i64 k ∧ ∀ j x, j < k → ls[j]? = some x → isLet x = true) (fun _ i => m - (intOf i).toNat)
    case atStart => exact ⟨0, by omega, rfl, fun j x hj => absurd hj (by omega)⟩
    case round =>
      obtain ⟨k, hk, rfl, hall⟩ := hrel
      replace hall := Lib.hid hall
      by_cases hlt : k < m
      · obtain ⟨b, off, x, rfl, hb, hx, c0⟩ := str_at hB1 hlt
        have hsz : x.size ≤ 1048576 := hs'.out x (List.mem_of_getElem? hx.out)
        have hk0 : (0 : Int) ≤ (k : Int) := Int.natCast_nonneg _
        cases hl : isLet x with
        | false =>
          have hcall := Lib.hid (fun W => isLetter_any x false hl W (by unfold maxLen; omega))
          have hres : Hid (r = ([], 2)) := Lib.hid (by
            have : ls.all isLet = false := by rw [List.all_eq_false]; exact ⟨x, List.mem_of_getElem? hx.out, by simp [hl]⟩
            rw [hr1.out, this]; rfl)
          clear hl
          go_wp2_with fail
          refine (hcall.out _).mono ?_
          rintro e w2 ⟨rfl, rfl⟩
          go_wp2
          go_ret2
          exact ⟨.slice none 0 0, by rw [hres.out]; rfl, by rw [hres.out]; exact World.ownsRow_nil _ _ _ _, hbw.out⟩
        | true =>
          have hcall := Lib.hid (fun W => isLetter_any x true hl W (by unfold maxLen; omega))
          have hnx : Hid (∀ j y, j < k + 1 → ls[j]? = some y → isLet y = true) := Lib.hid fun j y hj hy => by
            rcases Nat.lt_or_ge j k with h' | h'
            · exact hall.out j y h' hy
            · obtain rfl : j = k := by omega
              rw [hx.out] at hy
              cases hy
              exact hl
          clear hl
          go_wp2_with fail
          refine (hcall.out _).mono ?_
          rintro e w2 ⟨rfl, rfl⟩
          go_wp2
          go_round
          case rel => exact ⟨k + 1, by omega, by go_num, hnx.out⟩
          case measure => simp [intOf]; omega
      · obtain rfl : m = k := by omega
        have hal : ls.all isLet = true := by
          rw [List.all_eq_true]
          intro x hx
          obtain ⟨j, hj, rfl⟩ := List.getElem_of_mem hx
          exact hall.out j _ (by rw [← hll.out]; exact hj) (List.getElem?_eq_getElem hj)
        have hr2 : Hid (r = if (ls.all fun s => (spotOf xs s).isSome) = true then (ls.map fun s => (spotOf xs s).getD (0, 0), 0) else ([], 3)) := Lib.hid (by rw [hr1.out, if_pos hal])
        replace hal := Lib.hid (List.all_eq_true.1 hal)
        clear hr1 hall hlt
        have hMl := hM1.out.lt
        have hB1' := Lib.hid hB1
        go_wp2
        go_loopw [10, 12, 14, 34] (fun v _ _ i wr => ∃ k : Nat, k ≤ m ∧ i = .int .i64 k ∧ (∀ j x, j < k → ls[j]? = some x → (spotOf xs x).isSome = true) ∧ wr.ownsRow w1.heap.size 61 2 v k (((ls.take k).map fun s => (spotOf xs s).getD (0, 0)).flatMap pairC) ∧ Below w1.heap.size w1 wr) (fun _ _ _ i _ => m - (intOf i).toNat)
        case atStart => exact ⟨0, by omega, rfl, fun j x hj => absurd hj (by omega), World.ownsRow_nil _ _ _ _, Below.refl _ _⟩
        case round =>
          rename World => wr
          obtain ⟨k, hk, rfl, hall, hrow, hbr⟩ := hrel
          replace hall := Lib.hid hall
          replace hrow := Lib.hid hrow
          have hMr := hM1.out.below hbr hMl
          have hMrl := hMr.lt
          by_cases hlt : k < m
          · obtain ⟨b, off, x, e9, hb, hx, c0⟩ := str_at (hB1'.out.below hbr) hlt
            subst e9
            have hk0 : (0 : Int) ≤ (k : Int) := Int.natCast_nonneg _
            obtain ⟨z, rfl⟩ := isLet_is6 (hal.out x (List.mem_of_getElem? hx.out))
            have hsp : spotOf xs ⟨#[z]⟩ = look6 z (keysFrom 0 xs) := rfl
            cases hl : look6 z (keysFrom 0 xs) with
            | none =>
              have hval : (valOf z (spotL6 (keysFrom 0 xs))).getD (.agg #[.int .i64 0, .int .i64 0]) = .agg #[.int .i64 0, .int .i64 0] := by rw [val_spot6, hl]; rfl
              have hok : (valOf z (spotL6 (keysFrom 0 xs))).isSome = false := by rw [val_spot6, hl]; rfl
              have hres : Hid (r = ([], 3)) := Lib.hid (by
                have : (ls.all fun s => (spotOf xs s).isSome) = false := by rw [List.all_eq_false]; exact ⟨_, List.mem_of_getElem? hx.out, by simp [hsp, hl]⟩
                rw [hr2.out, this]; rfl)
              replace hval := Lib.hid hval
              replace hok := Lib.hid hok
              clear hl hsp
              go_wp2_with (at_lookup; refine wpList_look_is rfl _ _ _ 5 61 rfl byteKey6 Try.underlying57 (zero_spot6 _) rfl hMr z rfl hval.out hok.out ?_)
              go_ret2
              exact ⟨.slice none 0 0, by rw [hres.out]; rfl, by rw [hres.out]; exact World.ownsRow_nil _ _ _ _, hbw.out.step (hbr.step (below_a1 _ _))⟩
            | some p =>
              have hval : (valOf z (spotL6 (keysFrom 0 xs))).getD (.agg #[.int .i64 0, .int .i64 0]) = .agg #[.int .i64 (p.1 : Int), .int .i64 (p.2 : Int)] := by rw [val_spot6, hl]; rfl
              have hok : (valOf z (spotL6 (keysFrom 0 xs))).isSome = true := by rw [val_spot6, hl]; rfl
              have hnx : Hid (∀ j y, j < k + 1 → ls[j]? = some y → (spotOf xs y).isSome = true) := Lib.hid fun j y hj hy => by
                rcases Nat.lt_or_ge j k with h' | h'
                · exact hall.out j y h' hy
                · obtain rfl : j = k := by omega
                  rw [hx.out] at hy
                  cases hy
                  rw [hsp, hl]; rfl
              have htk : Hid ((ls.take (k + 1)).map (fun s => (spotOf xs s).getD (0, 0)) = (ls.take k).map (fun s => (spotOf xs s).getD (0, 0)) ++ [p]) := Lib.hid (by
                obtain ⟨q1, q2⟩ := List.getElem?_eq_some_iff.1 hx.out
                rw [List.take_succ_eq_append_getElem q1, List.map_append, q2]
                simp [hsp, hl])
              replace hval := Lib.hid hval
              replace hok := Lib.hid hok
              clear hl hsp
              go_wp2_with (first | (at_lookup; refine wpList_look_is rfl _ _ _ 5 61 rfl byteKey6 Try.underlying57 (zero_spot6 _) rfl hMr z rfl hval.out hok.out ?_) | (at_builtin; refine wpList_append_own _ rfl _ _ 68 rfl w1.heap.size 61 i0 _ 2 16 Try.underlying68 hi hz0 hz1 hz2 rfl (by decide) _ _ _ rfl ((hrow.out.alloc _).alloc _) ⟨wr.heap.size + 1, 0, none⟩ 1 1 [.int .i64 (p.1 : Int), .int .i64 (p.2 : Int)] rfl rfl ?a1 ?b1 ?c1 ?d1 ?e1 ?_))
              case a1 =>
                intro i u hi
                match i, hi with
                | 0, hi => cases hi; exact cell_new (by simp [Addr.add]) rfl
                | 1, hi => cases hi; exact cell_new (by simp [Addr.add]) rfl
                | i + 2, hi => simp at hi
              case b1 =>
                intro u hu
                simp only [List.mem_cons, List.not_mem_nil, or_false] at hu
                rcases hu with rfl | rfl <;> rfl
              case c1 => unfold maxLen; omega
              case d1 => omega
              case e1 => have := hbr.size; simp; omega
              intro v' w4 hown3 hgr3 hnil
              have hgr := grown_trans (grown_below (below_a2 wr _ _) _) hgr3
              have hrel4 : Hid (w4.ownsRow w1.heap.size 61 2 v' (k + 1) (((ls.take (k + 1)).map fun s => (spotOf xs s).getD (0, 0)).flatMap pairC) ∧ Below w1.heap.size w1 w4) := Lib.hid ⟨by rw [htk.out, fl_snoc, List.map_take]; exact hown3, hbr.grown hgr hbr.size (fun q hq => own_ge hrow.out hq)⟩
              clear hown3 hgr3 hnil hgr
              go_wp2
              go_roundw
              case rel => exact ⟨k + 1, by omega, by go_num, hnx.out, hrel4.out.1, hrel4.out.2⟩
              case measure => simp [intOf]; omega
          · obtain rfl : k = m := by omega
            have hal2 : (ls.all fun s => (spotOf xs s).isSome) = true := by
              rw [List.all_eq_true]
              intro x hx
              obtain ⟨j, hj, rfl⟩ := List.getElem_of_mem hx
              exact hall.out j _ (by rw [← hll.out]; exact hj) (List.getElem?_eq_getElem hj)
            have hres : Hid (r = (ls.map fun s => (spotOf xs s).getD (0, 0), 0)) := Lib.hid (by rw [hr2.out, if_pos hal2])
            have hrow2 := Lib.hid (own_mono hrow.out hbw.out.size)
            clear hal2 hrow
            go_wp2
            go_ret2
            refine ⟨_, by rw [hres.out]; rfl, ?_, hbw.out.step hbr⟩
            have := hrow2.out
            rw [List.take_of_length_le (by rw [hll.out]; exact Nat.le_refl _)] at this
            rw [hres.out]
            simp only [List.length_map, hll.out]
            exact this
  · have hbw := Lib.hid (hb0.out.step hb1)
    have hres : Hid (r = ([], 1)) := Lib.hid (by rw [hr.out]; simp [flR, h1])
    clear h1 hr
    go_wp2
    go_ret2
    exact ⟨.slice none 0 0, by rw [hres.out]; rfl, by rw [hres.out]; exact World.ownsRow_nil _ _ _ _, hbw.out⟩
end Go.Proofs.Yticggclpaalhgaa
