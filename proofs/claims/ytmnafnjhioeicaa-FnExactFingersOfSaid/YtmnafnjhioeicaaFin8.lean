/- Boards: the program's keys of a board, the cost of a stroke; whether a byte is in a text twice. -/
import Derived.Test.YtmnafnjhioeicaaFin7
import Derived.Test.YtmnafnjhioeicaaFin5
import Derived.Test.YtmnafnjhioeicaaShIdx
import Derived.Laws.NewBlocks
import Derived.Deep.AppendLies
namespace Go.Proofs.Ytmnafnjhioeicaa
open Go.RowKit Go.ChangeShapes Go.WideShapes Go.Deep
set_option linter.unusedVariables false
set_option linter.unusedSimpArgs false

def keyC (ps : List PlaceD) (i : Nat) : List Value := [.int .i64 (plc ps i).finger, .int .i64 (plc ps i).row, .int .i64 (plc ps i).effort, .int .i64 (i : Int)]
abbrev BKeys (ps : List PlaceD) (w : World) (A : Option Addr) (n : Nat) (ks : List Nat) : Prop := SRow 4 (keyC ps) w A n ks
theorem bkey_at {ps : List PlaceD} {w : World} {A : Option Addr} {n k : Nat} {ks : List Nat} (h : BKeys ps w A n ks) (hk : k < n) :
    ∃ b off x, A = some ⟨b, off, none⟩ ∧ b < w.heap.size ∧ Hid (ks[k]? = some x) ∧ w.cell? ⟨b, off + k * 4, none⟩ = some (.int .i64 (plc ps x).finger) ∧ w.cell? ⟨b, off + k * 4 + 1, none⟩ = some (.int .i64 (plc ps x).row) ∧ w.cell? ⟨b, off + k * 4 + 2, none⟩ = some (.int .i64 (plc ps x).effort) ∧ w.cell? ⟨b, off + k * 4 + 3, none⟩ = some (.int .i64 (x : Int)) := by
  obtain ⟨b, off, x, e, hb, hx, hc⟩ := h.at_ hk
  exact ⟨b, off, x, e, hb, Lib.hid hx, hc 0 _ rfl, hc 1 _ rfl, hc 2 _ rfl, hc 3 _ rfl⟩
theorem keys_snoc (ps : List PlaceD) (l : List Nat) (x : Nat) : (l ++ [x]).flatMap (keyC ps) = l.flatMap (keyC ps) ++ [.int .i64 (plc ps x).finger, .int .i64 (plc ps x).row, .int .i64 (plc ps x).effort, .int .i64 (x : Int)] := by simp [keyC]
theorem range_snoc (k : Nat) : List.range (k + 1) = List.range k ++ [k] := List.range_succ
theorem news4 (w : World) (a b c d : Value) (T : TypeId) : ∀ j u, [a, b, c, d][j]? = some u → (w.alloc (.cells #[a, b, c, d] T)).cell? ((⟨w.heap.size, 0, none⟩ : Addr).add j) = some u := by
  intro j u hj
  match j, hj with
  | 0, hj => cases hj; exact cell_new (by simp [Addr.add]) rfl
  | 1, hj => cases hj; exact cell_new (by simp [Addr.add]) rfl
  | 2, hj => cases hj; exact cell_new (by simp [Addr.add]) rfl
  | 3, hj => cases hj; exact cell_new (by simp [Addr.add]) rfl
  | j + 4, hj => simp at hj
theorem one4 (a b c d : Int) : ∀ u ∈ [Value.int .i64 a, Value.int .i64 b, Value.int .i64 c, Value.int .i64 d], u.oneCell' = true := by
  intro u hu
  simp only [List.mem_cons, List.not_mem_nil, or_false] at hu
  rcases hu with rfl | rfl | rfl | rfl <;> rfl
theorem Try.infoBKey : (Try.prog.info? 61).map (fun i => (i.zero, i.size, i.bytes)) = some (some (.agg #[.int .i64 0, .int .i64 0, .int .i64 0, .int .i64 0]), 4, 32) := by kernel_rfl
theorem owns_bk {ps : List PlaceD} {w : World} {base n : Nat} {L : Value} {l : List Nat} (hn : l.length = n) (h : w.ownsRow base 61 4 L n (l.flatMap (keyC ps))) : ∃ A c, L = .slice A n c ∧ ORow 61 4 (keyC ps) w base A n l := by
  subst hn
  exact ORow.of_owns (fun _ => rfl) h
theorem idx_impl8 (s : ByteArray) (c : UInt8) (w : World) :
    Calls Try.prog 66 #[.string s, .int .u8 (c.toNat : Int)] w fun e w' => e = .returned (.int .i64 (Lib.indexByte s.data.toList c)) ∧ w = w' := by
  refine (Try.strings_IndexByte s (c.toNat : Int) w).mono fun e w' h => ?_
  obtain ⟨rfl, rfl⟩ := h
  refine ⟨?_, rfl⟩
  rw [Int.toNat_natCast]
  congr 3
  exact UInt8.ofNat_toNat
theorem twice_impl (s : ByteArray) {v : Bool} (hv : distB s.data.toList = v) (w : World) (hs : s.size ≤ 1048576) :
    Calls Try.prog 65 #[.string s] w fun e w' => e = .returned (.bool (!v)) ∧ w = w' := by
  replace hv := Lib.hid hv
  go_enter Try.func65, Try.ntmps65
  go_wp2
  go_loopw [6] (fun i wr => ∃ k : Nat, k ≤ s.size ∧ i = .int .i64 k ∧ w = wr ∧ ∀ j : Nat, j < k → dupAt s.data.toList j = false) (fun i _ => s.size - (intOf i).toNat)
  case atStart => exact ⟨0, by omega, rfl, rfl, fun j hj => absurd hj (by omega)⟩
  case round =>
    obtain ⟨k, hk, rfl, rfl, hall⟩ := hrel
    replace hall := Lib.hid hall
    by_cases hlt : k < s.size
    · have hby := Lib.hid (byte_of hlt)
      have hcall := Lib.hid (idx_impl8 s (s[k]'hlt) w)
      cases hd : dupAt s.data.toList k with
      | true =>
        have hr : Hid (v = false) := Lib.hid (by rw [← hv.out, distB_no (i := k) hlt hd])
        have hne : Lib.indexByte s.data.toList (s[k]'hlt) ≠ (k : Int) := fun h => by
          rw [(dupAt_idx hby.out).2 h] at hd
          cases hd
        generalize Lib.indexByte s.data.toList (s[k]'hlt) = X at *
        have e1 : (X == (k : Int)) = false := beq_eq_false_iff_ne.2 hne
        clear hd hne
        go_wp2_with fail
        refine (hcall.out).mono ?_
        rintro e w1 ⟨rfl, rfl⟩
        go_wp2
        go_ret
        exact ⟨by rw [hr.out]; rfl, rfl⟩
      | false =>
        have heq : Lib.indexByte s.data.toList (s[k]'hlt) = (k : Int) := (dupAt_idx hby.out).1 hd
        rw [heq] at hcall
        have hnext : Hid (∀ j : Nat, j < k + 1 → dupAt s.data.toList j = false) := Lib.hid fun j hj => by
          rcases Nat.lt_or_ge j k with h' | h'
          · exact hall.out j h'
          · obtain rfl : j = k := by omega
            exact hd
        clear hd heq
        go_wp2_with fail
        refine (hcall.out).mono ?_
        rintro e w1 ⟨rfl, rfl⟩
        go_wp2
        go_roundw
        case rel => exact ⟨k + 1, by omega, by go_num, by trivial, hnext.out⟩
        case measure => simp [intOf]; omega
    · have hr : Hid (v = true) := Lib.hid (by rw [← hv.out, distB_yes fun i hi => hall.out i (by have h9 : i < s.size := hi; omega)])
      go_wp2
      go_ret
      exact ⟨by rw [hr.out]; rfl, rfl⟩

set_option maxRecDepth 100000 in
set_option maxHeartbeats 1600000 in
theorem keys_impl (A : Option Addr) (n c : Nat) (ps : List PlaceD) (w : World) (h : Places w A n ps) (hn : n ≤ 6) :
    Calls Try.prog 46 #[.slice A n c] w fun e w' => ∃ A' c', e = .returned (.slice A' n c') ∧ ORow 61 4 (keyC ps) w' w.heap.size A' n (List.range n) ∧ Below w.heap.size w w' := by
  obtain ⟨i0, hi, hz0, hz1, hz2⟩ := info_parts Try.infoBKey
  go_enter Try.func46, Try.ntmps46
  go_wp2
  go_loopw [3, 8] (fun v i wr => ∃ k : Nat, k ≤ n ∧ i = .int .i64 k ∧ Below w.heap.size w wr ∧ wr.ownsRow w.heap.size 61 4 v k ((List.range k).flatMap (keyC ps))) (fun _ i _ => n - (intOf i).toNat)
  case atStart => exact ⟨0, by omega, rfl, Below.refl _ _, ⟨rfl, .inl ⟨rfl, rfl⟩⟩⟩
  case round =>
    obtain ⟨k, hk, rfl, hbw, hrow⟩ := hrel
    have hwz := hbw.size
    by_cases hlt : k < n
    · obtain ⟨b, off, x, rfl, hb, hx, c0, c1, c2⟩ := place_at (h.below hbw) hlt
      have hpx := Lib.hid (plc_of hx.out)
      have hnx := Lib.hid (keys_snoc ps (List.range k) k)
      have hrs := Lib.hid (range_snoc k)
      rw [hpx.out] at hnx
      have hrl := Lib.hid hrow
      obtain ⟨v0, c0', rfl⟩ := owns_form2 hrow
      clear hrow hpx
      go_wp2_with (at_builtin; refine wpList_append_own _ rfl _ _ 58 rfl w.heap.size 61 i0 _ 4 32 Try.underlying58 hi hz0 hz1 hz2 rfl (by decide) _ _ _ rfl ((hrl.out.alloc _).alloc _) ⟨wr.heap.size + 1, 0, none⟩ 1 1 [.int .i64 x.finger, .int .i64 x.row, .int .i64 x.effort, .int .i64 (k : Int)] rfl rfl ?cn (one4 _ _ _ _) (by unfold maxLen; omega) (by omega) (by simp; omega) ?_)
      case cn => have := news4 (wr.alloc (.cells #[.int .i64 x.finger, .int .i64 x.row, .int .i64 x.effort] 49)) (.int .i64 x.finger) (.int .i64 x.row) (.int .i64 x.effort) (.int .i64 (k : Int)) 61; simpa using this
      intro vq0 wq0 hownq0 hgrq0 hnilq0
      have hgqq0 := grown_trans (grown_below (below_a2 wr _ _) _) hgrq0
      clear hgrq0 hnilq0
      have hrel4 : Hid (Below w.heap.size w wq0 ∧ wq0.ownsRow w.heap.size 61 4 vq0 (k + 1) ((List.range (k + 1)).flatMap (keyC ps))) := Lib.hid ⟨hbw.grown hgqq0 hwz (fun j hj => owns_ge3 hrl.out hj), by rw [hrs.out, hnx.out]; exact hownq0⟩
      clear hownq0 hgqq0 hrl
      go_wp2
      go_roundw
      case rel => exact ⟨k + 1, by omega, by go_num, hrel4.out.1, hrel4.out.2⟩
      case measure => simp [intOf]; omega
    · obtain rfl : k = n := by omega
      obtain ⟨A', c', rfl, hO⟩ := owns_bk (List.length_range) hrow
      replace hO := Lib.hid hO
      clear hrow
      go_wp2
      go_ret
      exact ⟨A', c', rfl, hO.out, hbw⟩
end Go.Proofs.Ytmnafnjhioeicaa
