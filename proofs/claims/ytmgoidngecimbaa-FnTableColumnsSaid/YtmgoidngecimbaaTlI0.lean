/- Tables: the sides of columns, as the program reads and uses them. -/
import Derived.Test.YtmgoidngecimbaaTl0
import Derived.Test.YtmgoidngecimbaaTblI
import Derived.Test.YtmgoidngecimbaaAlI
import Derived.Laws.RangeAny
import Derived.Lib.OthersKept
namespace Go.Proofs.Ytmgoidngecimbaa
open Go.RowKit Go.ChangeShapes Go.WideShapes Go.Deep
set_option linter.unusedVariables false
set_option linter.unusedSimpArgs false

theorem own_iterAt8 {w : World} {B e size n : Nat} {v : Value} {xs : List Value} {k : Nat} {s : ByteArray} {pos : Nat} (h : w.ownsRow B e size v n xs) (hk : w.heap[k]? = some (.stringIter s pos)) (pos' : Nat) : (w.iterAt k s pos').ownsRow B e size v n xs := by
  refine ⟨h.1, ?_⟩
  rcases h.2 with h0 | ⟨g, cap, cur, hv, hb, hg, rest⟩
  · exact .inl h0
  · refine .inr ⟨g, cap, cur, hv, hb, ?_, rest⟩
    rw [Lib.iterAt_other _ _ _ _ _ (fun e => by subst e; rw [hk] at hg; cases hg)]
    exact hg
theorem own_ne_iter8 {w : World} {B e size n : Nat} {v : Value} {xs : List Value} {k : Nat} {s : ByteArray} {pos : Nat} (h : w.ownsRow B e size v n xs) (hk : w.heap[k]? = some (.stringIter s pos)) : some k ≠ v.ownBlock := by
  rcases h.2 with ⟨rfl, _⟩ | ⟨g, cap, cur, rfl, hb, hg, rest⟩
  · simp [Value.ownBlock]
  · intro e
    simp only [Value.ownBlock, Option.some.injEq] at e
    subst e
    rw [hk] at hg
    cases hg
/-- A side, as it lies in a slice. -/
def sideV (c : UInt8) : Value := if c.toNat = 108 then .iface 84 (.agg #[]) else .iface 85 (.agg #[])
def sideC (c : UInt8) : List Value := [sideV c]
theorem one8i (c : UInt8) : ∀ u ∈ [sideV c], u.oneCell' = true := by
  intro u hu
  simp only [List.mem_cons, List.not_mem_nil, or_false] at hu
  subst hu
  unfold sideV
  split <;> rfl
theorem Try.infoSide : (Try.prog.info? 58).map (fun i => (i.zero, i.size, i.bytes)) = some (some .nilIface, 1, 16) := by kernel_rfl
theorem fillL8 (a b : ByteArray) (hab : a.size + b.size ≤ 1000) (w : World) : Calls Try.prog 115 #[.agg #[], .string a, .string b] w fun e w' => e = .returned (.string (a ++ b)) ∧ Below w.heap.size w w' := by
  have hcat : ¬ 9223372036854775807 < a.size + b.size := by omega
  go_enter Try.func115, Try.ntmps115
  go_wp2
  go_ret
  exact ⟨rfl, below_a1 _ _⟩
theorem fillR8 (a b : ByteArray) (hab : a.size + b.size ≤ 1000) (w : World) : Calls Try.prog 116 #[.agg #[], .string a, .string b] w fun e w' => e = .returned (.string (b ++ a)) ∧ Below w.heap.size w w' := by
  have hcat : ¬ 9223372036854775807 < b.size + a.size := by omega
  go_enter Try.func116, Try.ntmps116
  go_wp2
  go_ret
  exact ⟨rfl, below_a1 _ _⟩
theorem sideV_l {c : UInt8} (h : c.toNat = 108) : sideV c = .iface 84 (.agg #[]) := by rw [sideV, if_pos h]
theorem sideV_r {c : UInt8} (h : ¬ c.toNat = 108) : sideV c = .iface 85 (.agg #[]) := by rw [sideV, if_neg h]
/-- The sides that letters tell. -/
def RsOut (s : ByteArray) (w : World) (e : Ending) (w' : World) : Prop :=
  Below w.heap.size w w' ∧ ((sidesOk s = true ∧ ∃ A c, e = .returned (.tuple #[.slice A s.size c, .bool true]) ∧ SRow 1 sideC w' A s.size s.data.toList) ∨ (sidesOk s = false ∧ e = .returned (.tuple #[.slice none 0 0, .bool false])))
set_option maxRecDepth 100000 in
set_option maxHeartbeats 3200000 in
theorem readSides8 (s : ByteArray) (hs : s.size ≤ 1048576) (w : World) : Calls Try.prog 31 #[.string s] w (RsOut s w) := by
  obtain ⟨i0, hi, hz0, hz1, hz2⟩ := info_parts Try.infoSide
  go_enter Try.func31, Try.ntmps31
  go_wp2
  go_loopw [4] (fun v wr => ∃ pos : Nat, wr.heap[w.heap.size]? = some (.stringIter s pos) ∧ Below w.heap.size w wr ∧ pos ≤ s.size ∧ sidesOk s = (s.data.toList.drop pos).all sideB ∧ wr.ownsRow (w.heap.size + 1) 58 1 v pos ((s.data.toList.take pos).flatMap sideC)) (fun _ wr => s.size - wr.iterPos w.heap.size)
  case atStart => exact ⟨0, World.iter_heap w s 0, (Below.refl _ w).alloc (Nat.le_refl _) _, by omega, rfl, owns_nil8 _ _ _⟩
  case round =>
    rename World => wr
    obtain ⟨pos, hit, hbw, hps, he, hrow⟩ := hrel
    replace he := Lib.hid he
    have hsz : w.heap.size < wr.heap.size := (Array.getElem?_eq_some_iff.1 hit).1
    by_cases hp : pos < s.size
    · by_cases hasc : (s[pos]'hp).toNat < 128
      · have hnx : ∀ ty, (Instr.next (.pointer (some ⟨w.heap.size, 0, none⟩)) true ty).run Try.prog wr = _ := fun ty => Lib.run_next_ascii_at wr w.heap.size s pos ty hit hp hasc
        have hit2 := Lib.iterAt_heap wr w.heap.size s pos (pos + 1) hit
        have hbw2 := Lib.below_iterAt hbw (k := w.heap.size) (Nat.le_refl _) s (pos + 1)
        have hrow2 := own_iterAt8 hrow hit (pos + 1)
        have hsz2 : w.heap.size < (wr.iterAt w.heap.size s (pos + 1)).heap.size := by rw [Lib.iterAt_size]; exact hsz
        have hip : wr.iterPos w.heap.size = pos := by simp only [World.iterPos, hit]
        have hst := Lib.hid (side_drop s pos hp)
        have htk := Lib.hid (show (s.data.toList.take (pos + 1)).flatMap sideC = (s.data.toList.take pos).flatMap sideC ++ [sideV (s[pos]'hp)] by rw [take8 (bytes_at8 s hp), List.flatMap_append]; rfl)
        clear hbw hit hrow
        generalize hwi : wr.iterAt w.heap.size s (pos + 1) = wi at *
        clear hwi
        by_cases hL : (s[pos]'hp).toNat = 108
        · have g1 : (((s[pos]'hp).toNat : Int) == 108) = true := beq_iff_eq.2 (by omega)
          have g1' : ((s[pos]'hp).toNat == 108) = true := beq_iff_eq.2 hL
          have hnx2 : Hid (sidesOk s = (s.data.toList.drop (pos + 1)).all sideB) := Lib.hid (by rw [he.out, hst.out]; simp [sideB, hL])
          have hval := sideV_l hL
          rw [hval] at htk
          have hrl := Lib.hid hrow2
          have hne := Lib.hid (own_ne_iter8 hrow2 hit2)
          replace hL := Lib.hid hL
          replace hval := Lib.hid hval
          clear hrow2
          go_wp2_with (at_builtin; refine wpList_append_own _ rfl _ _ 52 rfl (w.heap.size + 1) 58 i0 _ 1 16 Try.underlying52 hi hz0 hz1 hz2 rfl (by decide) _ _ _ rfl (hrl.out.alloc _) ⟨wi.heap.size, 0, none⟩ 1 1 [.iface 84 (.agg #[])] rfl rfl (news8 _ _ _) (hval.out ▸ one8i _) (by unfold maxLen; omega) (by omega) (by simp; omega) ?_)
          intro vqq wqq hownqq hgrqq hnilqq
          have hgqq := grown_trans (grown_below (below_a1 wi _) _) hgrqq
          clear hgrqq hnilqq
          have hqq : Hid (wqq.ownsRow (w.heap.size + 1) 58 1 vqq (pos + 1) ((s.data.toList.take (pos + 1)).flatMap sideC)) := Lib.hid (by rw [htk.out]; exact hownqq)
          clear hownqq
          have hit3 := Lib.hid (show wqq.heap[w.heap.size]? = some (.stringIter s (pos + 1)) from (hgqq.block _ hsz2 hne.out).trans hit2)
          have hb3 := Lib.hid (hbw2.grown hgqq (Nat.le_of_lt hsz2) (fun j hj => by have := owns_ge8 hrl.out hj; omega))
          clear hgqq hrl
          go_wp2
          go_roundw
          case rel => exact ⟨pos + 1, hit3.out, hb3.out, by omega, hnx2.out, hqq.out⟩
          case measure => simp only [World.iterPos, hit3.out] at *; omega
        · have g1 : (((s[pos]'hp).toNat : Int) == 108) = false := beq_eq_false_iff_ne.2 (by omega)
          have g1' : ((s[pos]'hp).toNat == 108) = false := beq_eq_false_iff_ne.2 hL
          by_cases hR : (s[pos]'hp).toNat = 114
          · have g2 : (((s[pos]'hp).toNat : Int) == 114) = true := beq_iff_eq.2 (by omega)
            have g2' : ((s[pos]'hp).toNat == 114) = true := beq_iff_eq.2 hR
            have hnx2 : Hid (sidesOk s = (s.data.toList.drop (pos + 1)).all sideB) := Lib.hid (by rw [he.out, hst.out]; simp [sideB, hR])
            have hval := sideV_r hL
            rw [hval] at htk
            have hrl := Lib.hid hrow2
            have hne := Lib.hid (own_ne_iter8 hrow2 hit2)
            replace hL := Lib.hid hL
            replace hR := Lib.hid hR
            replace hval := Lib.hid hval
            clear hrow2
            go_wp2_with (at_builtin; refine wpList_append_own _ rfl _ _ 52 rfl (w.heap.size + 1) 58 i0 _ 1 16 Try.underlying52 hi hz0 hz1 hz2 rfl (by decide) _ _ _ rfl (hrl.out.alloc _) ⟨wi.heap.size, 0, none⟩ 1 1 [.iface 85 (.agg #[])] rfl rfl (news8 _ _ _) (hval.out ▸ one8i _) (by unfold maxLen; omega) (by omega) (by simp; omega) ?_)
            intro vqq wqq hownqq hgrqq hnilqq
            have hgqq := grown_trans (grown_below (below_a1 wi _) _) hgrqq
            clear hgrqq hnilqq
            have hqq : Hid (wqq.ownsRow (w.heap.size + 1) 58 1 vqq (pos + 1) ((s.data.toList.take (pos + 1)).flatMap sideC)) := Lib.hid (by rw [htk.out]; exact hownqq)
            clear hownqq
            have hit3 := Lib.hid (show wqq.heap[w.heap.size]? = some (.stringIter s (pos + 1)) from (hgqq.block _ hsz2 hne.out).trans hit2)
            have hb3 := Lib.hid (hbw2.grown hgqq (Nat.le_of_lt hsz2) (fun j hj => by have := owns_ge8 hrl.out hj; omega))
            clear hgqq hrl
            go_wp2
            go_roundw
            case rel => exact ⟨pos + 1, hit3.out, hb3.out, by omega, hnx2.out, hqq.out⟩
            case measure => simp only [World.iterPos, hit3.out] at *; omega
          · have g2 : (((s[pos]'hp).toNat : Int) == 114) = false := beq_eq_false_iff_ne.2 (by omega)
            have g2' : ((s[pos]'hp).toNat == 114) = false := beq_eq_false_iff_ne.2 hR
            have hbad : Hid (sidesOk s = false) := Lib.hid (by rw [he.out, hst.out]; simp [sideB, hL, hR])
            replace hL := Lib.hid hL
            replace hR := Lib.hid hR
            clear hrow2
            go_wp2
            go_ret2
            exact ⟨hbw2, .inr ⟨hbad.out, rfl⟩⟩
      · have hnx : ∀ ty, (Instr.next (.pointer (some ⟨w.heap.size, 0, none⟩)) true ty).run Try.prog wr = _ := fun ty => Lib.run_next_any_at wr w.heap.size s pos ty hit hp
        have hhi := (decode_high s pos hp (by omega)).1
        have hbad : Hid (sidesOk s = false) := Lib.hid (by
          rw [he.out, side_drop s pos hp]
          have h1 : ¬ (s[pos]'hp).toNat = 108 := by omega
          have h2 : ¬ (s[pos]'hp).toNat = 114 := by omega
          simp [sideB, h1, h2])
        have hbw2 := fun p' => Lib.below_iterAt hbw (k := w.heap.size) (Nat.le_refl _) s p'
        generalize (Utf8.decode s pos).1 = d at *
        have g1 : ((d : Int) == 108) = false := beq_eq_false_iff_ne.2 (by omega)
        have g1' : (d == 108) = false := beq_eq_false_iff_ne.2 (by omega)
        have g2 : ((d : Int) == 114) = false := beq_eq_false_iff_ne.2 (by omega)
        have g2' : (d == 114) = false := beq_eq_false_iff_ne.2 (by omega)
        clear hrow
        go_wp2
        go_ret2
        exact ⟨hbw2 _, .inr ⟨hbad.out, rfl⟩⟩
    · obtain rfl : pos = s.size := by omega
      have hnx : ∀ ty, (Instr.next (.pointer (some ⟨w.heap.size, 0, none⟩)) true ty).run Try.prog wr = _ := fun ty => Lib.run_next_end_at wr w.heap.size s s.size ty hit hp
      have hok : Hid (sidesOk s = true) := Lib.hid (by rw [he.out, List.drop_of_length_le (by rw [size_len8]; omega)]; rfl)
      rw [List.take_of_length_le (by rw [size_len8]; omega)] at hrow
      obtain ⟨A, c, rfl, hO⟩ := ORow.of_owns (cells := sideC) (size := 1) (ys := s.data.toList) (fun (x : UInt8) => (rfl : (sideC x).length = 1)) hrow
      have hO2 := Lib.hid hO.srow
      clear hO hrow
      go_wp2
      go_ret2
      exact ⟨hbw, .inl ⟨hok.out, A, c, rfl, hO2.out⟩⟩
end Go.Proofs.Ytmgoidngecimbaa
