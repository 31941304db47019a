/- A number in decimal: the model's own loop gives the numeral of the library. -/
import Derived.Test.YtceedmejmmoepaaDoorProg
import Derived.WalkKit
import Derived.ProofKit
import Derived.Outline
import Derived.LoopTactic
import Derived.Below
import Derived.Lib.Hide
import Derived.Lib.ItoaNum
import Derived.Laws.OwnMore
import Derived.OwnWalk
import Derived.WalkSpells
import Derived.Laws.IdiomStrings
namespace Go.Proofs.YtceedmejmmoepaaDoor
open Go.RowKit
set_option linter.unusedVariables false
set_option linter.unusedSimpArgs false

/-- The digits of u; none of 0. -/
def decs (u : Nat) : List UInt8 := if u = 0 then [] else Lib.decDigits u
theorem decs_zero : decs 0 = [] := rfl
theorem decs_pos {u : Nat} (h : u ≠ 0) : decs u = Lib.decDigits u := if_neg h
theorem decs_step {u : Nat} (h : u ≠ 0) : decs u = decs (u / 10) ++ [UInt8.ofNat (48 + u % 10)] := by
  rw [decs_pos h, Lib.decDigits]
  by_cases h10 : u < 10
  · have : u / 10 = 0 := by omega
    rw [dif_pos h10, this, decs_zero, Nat.mod_eq_of_lt h10]
    rfl
  · rw [dif_neg h10, decs_pos (by omega)]

/-- A byte as a cell. -/
def byteCell (b : UInt8) : Value := .int .u8 b.toNat
theorem byteCell_digit (d : Nat) (h : d < 10) : byteCell (UInt8.ofNat (48 + d)) = .int .u8 (48 + d : Int) := by
  unfold byteCell
  congr 1
  simp
  omega

theorem Tryd.infoByte : (Tryd.prog.info? 5).map (fun i => (i.zero, i.size, i.bytes)) = some (some (.int .u8 0), 1, 1) := by kernel_rfl

/-- The bytes lie at the head of block g. -/
def BytesAt (w : World) (g : Nat) (ds : List UInt8) : Prop := ∀ j u, (ds.map byteCell)[j]? = some u → w.cell? ⟨g, j, none⟩ = some u

theorem ret_str {a b : ByteArray} (h : a = b) : Ending.returned (.string a) = .returned (.string b) := by rw [h]
theorem add_off (g j : Nat) : (⟨g, 0, none⟩ : Addr).add j = ⟨g, j, none⟩ := by
  unfold Addr.add
  split
  · rename_i h
    rw [h]
  · simp
theorem bytesAt_get {w : World} {g : Nat} {ds : List UInt8} (h : BytesAt w g ds) : ∀ j (hj : j < ds.length), w.cell? ((⟨g, 0, none⟩ : Addr).add j) = some (.int .u8 (ds[j].toNat : Int)) := fun j hj => by
  rw [add_off]
  exact h j _ (by simp [List.getElem?_eq_getElem hj, byteCell])
theorem bytesAt_alloc {w : World} {g : Nat} {ds : List UInt8} (h : BytesAt w g ds) (hg : g < w.heap.size) (o : Obj) : BytesAt (w.alloc o) g ds := fun j u hu => by
  rw [World.cell?_alloc_lt w o ⟨g, j, none⟩ hg]
  exact h j u hu
theorem bytesAt_add {w : World} {g : Nat} {ds : List UInt8} (h : BytesAt w g ds) : ∀ j u, (ds.map byteCell)[j]? = some u → w.cell? ((⟨g, 0, none⟩ : Addr).add j) = some u := fun j u hu => by
  rw [add_off]
  exact h j u hu
theorem bytes_one (ds : List UInt8) : ∀ u ∈ ds.map byteCell, u.oneCell' = true := fun u hu => by
  obtain ⟨b, _, rfl⟩ := List.mem_map.1 hu
  rfl
theorem bytes_cons (b : UInt8) (l : List UInt8) : (⟨#[b]⟩ : ByteArray) ++ ⟨l.toArray⟩ = ⟨(b :: l).toArray⟩ := by
  apply ByteArray.ext
  simp
theorem decs_nil {n : Nat} (h : decs n = []) : n = 0 := by
  rcases Nat.eq_zero_or_pos n with h0 | h0
  · exact h0
  · rw [decs_step (by omega)] at h
    simp at h

theorem pow_bound {u c n : Nat} (h : u * 10 ^ c ≤ n) (hu : 1 ≤ u) (hn : n ≤ 9223372036854775808) : c ≤ 18 := by
  rcases Nat.lt_or_ge c 19 with h1 | h1
  · omega
  · have h2 : 10 ^ 19 ≤ 10 ^ c := Nat.pow_le_pow_right (by omega) h1
    have h3 : 1 * 10 ^ c ≤ u * 10 ^ c := Nat.mul_le_mul_right _ hu
    omega
theorem pow_next {u c n : Nat} (h : u * 10 ^ c ≤ n) : (u / 10) * 10 ^ (c + 1) ≤ n := by
  have h1 : u / 10 * 10 ≤ u := Nat.div_mul_le_self u 10
  have h2 : u / 10 * 10 * 10 ^ c ≤ u * 10 ^ c := Nat.mul_le_mul_right _ h1
  rw [Nat.pow_succ, Nat.mul_comm (10 ^ c) 10, ← Nat.mul_assoc]
  omega

set_option maxHeartbeats 800000 in
set_option maxRecDepth 100000 in
theorem dec_nonneg (n : Nat) (w : World) (hn : n ≤ 9223372036854775807) :
    Calls Tryd.prog 41 #[.int .i64 n] w fun e w' => e = .returned (.string ⟨(Lib.decDigits n).toArray⟩) ∧ Below w.heap.size w w' := by
  obtain ⟨i0, hi0, hz0, hz1, hz2⟩ := info_parts Tryd.infoByte
  go_enter Tryd.func41, Tryd.ntmps41
  go_wp2
  go_loopw [3, 4, 5] (fun out k d wr => ∃ (u g cap : Nat) (ds : List UInt8), k = .int .i64 u ∧ u ≤ n ∧ out = .slice (some ⟨g, 0, none⟩) ds.length cap ∧ BytesAt wr g ds ∧ g < wr.heap.size ∧ decs u ++ ds = decs n ∧ u * 10 ^ ds.length ≤ n ∧ ds.length ≤ 19 ∧ Below w.heap.size w wr) (fun _ k _ _ => (intOf k).toNat)
  case atStart => exact ⟨n, w.heap.size, 0, [], rfl, Nat.le_refl _, rfl, fun j u h => by simp at h, by simp, by simp, by simp, by simp, (Below.refl _ w).alloc (Nat.le_refl _) _⟩
  case round =>
    obtain ⟨u, g, cap, ds, rfl, hun, rfl, hcells, hg, hds, hpow, hl19, hbw⟩ := hrel
    have hds := Lib.hid hds
    by_cases h0 : u = 0
    · subst h0
      have hds2 : Hid (ds = decs n) := Lib.hid (by have := hds.out; simpa [decs_zero] using this)
      have hcv : ∀ (c : Nat) (W : World), Below w.heap.size w W → True := fun _ _ _ => trivial
      by_cases hz : ds.length = 0
      · have hn0 : Hid (n = 0) := Lib.hid (by
          have h1 : ds = [] := List.eq_nil_of_length_eq_zero hz
          have h2 := hds2.out
          rw [h1] at h2
          exact decs_nil h2.symm)
        go_wp2
        go_ret
        exact ⟨ret_str (by rw [hn0.out, Lib.decDigits_one (by omega)]; rfl), hbw⟩
      · have hz' : ((ds.length : Int) == 0) = false := beq_eq_false_iff_ne.2 (by omega)
        have hn0 : Hid (n ≠ 0) := Lib.hid (fun h => by
          have h2 := hds2.out
          rw [h, decs_zero] at h2
          exact hz (by rw [h2]; rfl))
        have hconv := run_convert_bytes_back (P := Tryd.prog) wr 73 9 5 ⟨g, 0, none⟩ cap ds Tryd.underlying73 Tryd.underlying5 Tryd.underlying9 (bytesAt_get hcells)
        clear hz
        go_wp2
        go_ret
        exact ⟨ret_str (by rw [← decs_pos hn0.out, ← hds2.out]), hbw⟩
    · have hlen := pow_bound hpow (by omega) (by omega)
      have hpow2 := Lib.hid (pow_next hpow)
      have hstep := Lib.hid (decs_step h0)
      have hbyte := Lib.hid (byteCell_digit (u % 10) (by omega))
      have hne : ((u : Int) == 0) = false := beq_eq_false_iff_ne.2 (by omega)
      have hd : decide ((u : Int) % 10 < 0) = false := decide_eq_false (by omega)
      have hd0 : 0 ≤ (u : Int) % 10 := by omega
      have hown : (wr.alloc (.cells #[.int .u8 (48 + (u : Int) % 10)] 5)).ownsRow wr.heap.size 5 1 (.slice (some ⟨wr.heap.size, 0, none⟩) 1 1) 1 [.int .u8 (48 + (u : Int) % 10)] := World.ownsRow_lit wr #[.int .u8 (48 + (u : Int) % 10)] 1 (Nat.le_refl _) (by unfold maxLen; omega) rfl
      have hsrc := bytesAt_add (bytesAt_alloc hcells hg (.cells #[.int .u8 (48 + (u : Int) % 10)] 5))
      have hu0 : 0 < u := by omega
      clear hpow h0
      have k1 : (ds.map byteCell).length = ds.length * 1 := by simp
      have k3 : 1 + ds.length ≤ maxLen := by unfold maxLen; omega
      have K1 := Lib.hid k1
      clear k1
      go_wp2_with (at_builtin; refine wpList_append_own _ rfl (.tmp 21) (.tmp 22) 73 rfl wr.heap.size 5 i0 _ 1 1 Tryd.underlying73 hi0 hz0 hz1 hz2 rfl (by omega) (.slice (some ⟨wr.heap.size, 0, none⟩) 1 1) 1 [.int .u8 (48 + (u : Int) % 10)] rfl hown ⟨g, 0, none⟩ ds.length cap (ds.map byteCell) rfl K1.out hsrc (bytes_one ds) k3 (by omega) (by simp) ?_; intro v' w1 hown1 hgrow1 hnil1)
      have hbw1 : Below w.heap.size w w1 := (hbw.alloc hbw.size _).grown hgrow1 (by simp; have := hbw.size; omega) (fun k hk => by have h2 := hbw.size; have h3 : wr.heap.size = k := (by simpa [Value.ownBlock] using hk); omega)
      have hu10 : Hid (u / 10 ≤ n) := Lib.hid (by omega)
      have hform : ∃ g' cap', v' = .slice (some ⟨g', 0, none⟩) (1 + ds.length) cap' ∧ g' < w1.heap.size := by
        rcases hown1.2 with ⟨_, h2⟩ | ⟨g', cap', cur, e, _, hh, _⟩
        · omega
        · exact ⟨g', cap', e, (Array.getElem?_eq_some_iff.1 hh).1⟩
      obtain ⟨g', cap', hv, hg'⟩ := hform
      rw [hv] at hown1 ⊢
      have hcells1 : Hid (BytesAt w1 g' (UInt8.ofNat (48 + u % 10) :: ds)) := Lib.hid fun j x hx => by
        have hj : j < 1 + ds.length := by
          have := (List.getElem?_eq_some_iff.1 hx).1
          simp at this
          omega
        rw [hown1.cellAt j (by omega), ← hx, List.map_cons, hbyte.out]
        rfl
      clear hown1 hgrow1 hnil1 hown hsrc hcells hv
      go_wp2
      go_roundw
      case rel => exact ⟨u / 10, g', cap', UInt8.ofNat (48 + u % 10) :: ds, by go_num, hu10.out, by rw [List.length_cons, Nat.add_comm], hcells1.out, hg', by rw [← hds.out, hstep.out]; simp, by rw [List.length_cons]; exact hpow2.out, by rw [List.length_cons]; omega, hbw1⟩
      case measure => simp [intOf]; omega
set_option maxHeartbeats 800000 in
set_option maxRecDepth 100000 in
theorem dec_neg (n : Nat) (w : World) (hn : n ≤ 9223372036854775808) (hn1 : 1 ≤ n) :
    Calls Tryd.prog 41 #[.int .i64 (-(n : Int))] w fun e w' => e = .returned (.string ⟨(45 :: Lib.decDigits n).toArray⟩) ∧ Below w.heap.size w w' := by
  obtain ⟨i0, hi0, hz0, hz1, hz2⟩ := info_parts Tryd.infoByte
  go_enter Tryd.func41, Tryd.ntmps41
  go_wp2
  go_loopw [3, 4, 5] (fun out k d wr => ∃ (u g cap : Nat) (ds : List UInt8), k = .int .i64 (-(u : Int)) ∧ u ≤ n ∧ out = .slice (some ⟨g, 0, none⟩) ds.length cap ∧ BytesAt wr g ds ∧ g < wr.heap.size ∧ decs u ++ ds = decs n ∧ u * 10 ^ ds.length ≤ n ∧ ds.length ≤ 19 ∧ Below w.heap.size w wr) (fun _ k _ _ => (-(intOf k)).toNat)
  case atStart => exact ⟨n, w.heap.size, 0, [], rfl, Nat.le_refl _, rfl, fun j u h => by simp at h, by simp, by simp, by simp, by simp, (Below.refl _ w).alloc (Nat.le_refl _) _⟩
  case round =>
    obtain ⟨u, g, cap, ds, rfl, hun, rfl, hcells, hg, hds, hpow, hl19, hbw⟩ := hrel
    have hds := Lib.hid hds
    by_cases h0 : u = 0
    · subst h0
      have hds2 : Hid (ds = decs n) := Lib.hid (by have := hds.out; simpa [decs_zero] using this)
      have hcv : ∀ (c : Nat) (W : World), Below w.heap.size w W → True := fun _ _ _ => trivial
      have hz : ¬ ds.length = 0 := fun hz => by
        have h1 : ds = [] := List.eq_nil_of_length_eq_zero hz
        have h2 := hds2.out
        rw [h1] at h2
        have := decs_nil h2.symm
        omega
      have hz' : ((ds.length : Int) == 0) = false := beq_eq_false_iff_ne.2 (by omega)
      have hneg : decide (-(n : Int) < 0) = true := decide_eq_true (by omega)
      have hn0 : Hid (n ≠ 0) := Lib.hid (by omega)
      have hconv := run_convert_bytes_back (P := Tryd.prog) wr 73 9 5 ⟨g, 0, none⟩ cap ds Tryd.underlying73 Tryd.underlying5 Tryd.underlying9 (bytesAt_get hcells)
      clear hz
      go_wp2
      go_ret
      exact ⟨ret_str (by rw [← decs_pos hn0.out, ← hds2.out]; exact bytes_cons 45 ds), hbw⟩
    · have hlen := pow_bound hpow (by omega) (by omega)
      have hpow2 := Lib.hid (pow_next hpow)
      have hstep := Lib.hid (decs_step h0)
      have hne : (-(u : Int) == 0) = false := beq_eq_false_iff_ne.2 (by omega)
      have hu0 : 0 < u := by omega
      have hbyte := Lib.hid (byteCell_digit (u % 10) (by omega))
      have hd0 : 0 ≤ (u : Int) % 10 := by omega
      clear hpow h0
      by_cases hr : 0 < (u : Int) % 10
      · have hd : decide (0 < (u : Int) % 10) = true := decide_eq_true hr
        have hown : (wr.alloc (.cells #[.int .u8 (48 + (u : Int) % 10)] 5)).ownsRow wr.heap.size 5 1 (.slice (some ⟨wr.heap.size, 0, none⟩) 1 1) 1 [.int .u8 (48 + (u : Int) % 10)] := World.ownsRow_lit wr #[.int .u8 (48 + (u : Int) % 10)] 1 (Nat.le_refl _) (by unfold maxLen; omega) rfl
        have hsrc := bytesAt_add (bytesAt_alloc hcells hg (.cells #[.int .u8 (48 + (u : Int) % 10)] 5))
        have k1 : (ds.map byteCell).length = ds.length * 1 := by simp
        have k3 : 1 + ds.length ≤ maxLen := by unfold maxLen; omega
        have K1 := Lib.hid k1
        clear k1
        go_wp2_with (at_builtin; refine wpList_append_own _ rfl (.tmp 21) (.tmp 22) 73 rfl wr.heap.size 5 i0 _ 1 1 Tryd.underlying73 hi0 hz0 hz1 hz2 rfl (by omega) (.slice (some ⟨wr.heap.size, 0, none⟩) 1 1) 1 [.int .u8 (48 + (u : Int) % 10)] rfl hown ⟨g, 0, none⟩ ds.length cap (ds.map byteCell) rfl K1.out hsrc (bytes_one ds) k3 (by omega) (by simp) ?_; intro v' w1 hown1 hgrow1 hnil1)
        have hbw1 : Below w.heap.size w w1 := (hbw.alloc hbw.size _).grown hgrow1 (by simp; have := hbw.size; omega) (fun k hk => by have h2 := hbw.size; have h3 : wr.heap.size = k := (by simpa [Value.ownBlock] using hk); omega)
        have hu10 : Hid (u / 10 ≤ n) := Lib.hid (by omega)
        have hform : ∃ g' cap', v' = .slice (some ⟨g', 0, none⟩) (1 + ds.length) cap' ∧ g' < w1.heap.size := by
          rcases hown1.2 with ⟨_, h2⟩ | ⟨g', cap', cur, e, _, hh, _⟩
          · omega
          · exact ⟨g', cap', e, (Array.getElem?_eq_some_iff.1 hh).1⟩
        obtain ⟨g', cap', hv, hg'⟩ := hform
        rw [hv] at hown1 ⊢
        have hcells1 : Hid (BytesAt w1 g' (UInt8.ofNat (48 + u % 10) :: ds)) := Lib.hid fun j x hx => by
          have hj : j < 1 + ds.length := by
            have := (List.getElem?_eq_some_iff.1 hx).1
            simp at this
            omega
          rw [hown1.cellAt j (by omega), ← hx, List.map_cons, hbyte.out]
          rfl
        clear hown1 hgrow1 hnil1 hown hsrc hcells hv
        go_wp2
        go_roundw
        case rel => exact ⟨u / 10, g', cap', UInt8.ofNat (48 + u % 10) :: ds, by rw [show ((u / 10 : Nat) : Int) = (u : Int) / 10 by omega], hu10.out, by rw [List.length_cons, Nat.add_comm], hcells1.out, hg', by rw [← hds.out, hstep.out]; simp, by rw [List.length_cons]; exact hpow2.out, by rw [List.length_cons]; omega, hbw1⟩
        case measure => simp [intOf]; omega
      · have hd : decide (0 < (u : Int) % 10) = false := decide_eq_false hr
        have hr0 : (u : Int) % 10 = 0 := by omega
        have hbyte0 : Hid (byteCell (UInt8.ofNat (48 + u % 10)) = .int .u8 48) := Lib.hid (by rw [hbyte.out]; congr 1; omega)
        clear hr hd0
        have hown : (wr.alloc (.cells #[.int .u8 (48)] 5)).ownsRow wr.heap.size 5 1 (.slice (some ⟨wr.heap.size, 0, none⟩) 1 1) 1 [.int .u8 (48)] := World.ownsRow_lit wr #[.int .u8 (48)] 1 (Nat.le_refl _) (by unfold maxLen; omega) rfl
        have hsrc := bytesAt_add (bytesAt_alloc hcells hg (.cells #[.int .u8 (48)] 5))
        have k1 : (ds.map byteCell).length = ds.length * 1 := by simp
        have k3 : 1 + ds.length ≤ maxLen := by unfold maxLen; omega
        have K1 := Lib.hid k1
        clear k1
        go_wp2_with (at_builtin; refine wpList_append_own _ rfl (.tmp 21) (.tmp 22) 73 rfl wr.heap.size 5 i0 _ 1 1 Tryd.underlying73 hi0 hz0 hz1 hz2 rfl (by omega) (.slice (some ⟨wr.heap.size, 0, none⟩) 1 1) 1 [.int .u8 (48)] rfl hown ⟨g, 0, none⟩ ds.length cap (ds.map byteCell) rfl K1.out hsrc (bytes_one ds) k3 (by omega) (by simp) ?_; intro v' w1 hown1 hgrow1 hnil1)
        have hbw1 : Below w.heap.size w w1 := (hbw.alloc hbw.size _).grown hgrow1 (by simp; have := hbw.size; omega) (fun k hk => by have h2 := hbw.size; have h3 : wr.heap.size = k := (by simpa [Value.ownBlock] using hk); omega)
        have hu10 : Hid (u / 10 ≤ n) := Lib.hid (by omega)
        have hform : ∃ g' cap', v' = .slice (some ⟨g', 0, none⟩) (1 + ds.length) cap' ∧ g' < w1.heap.size := by
          rcases hown1.2 with ⟨_, h2⟩ | ⟨g', cap', cur, e, _, hh, _⟩
          · omega
          · exact ⟨g', cap', e, (Array.getElem?_eq_some_iff.1 hh).1⟩
        obtain ⟨g', cap', hv, hg'⟩ := hform
        rw [hv] at hown1 ⊢
        have hcells1 : Hid (BytesAt w1 g' (UInt8.ofNat (48 + u % 10) :: ds)) := Lib.hid fun j x hx => by
          have hj : j < 1 + ds.length := by
            have := (List.getElem?_eq_some_iff.1 hx).1
            simp at this
            omega
          rw [hown1.cellAt j (by omega), ← hx, List.map_cons, hbyte0.out]
          rfl
        clear hown1 hgrow1 hnil1 hown hsrc hcells hv
        go_wp2
        go_roundw
        case rel => exact ⟨u / 10, g', cap', UInt8.ofNat (48 + u % 10) :: ds, by rw [show ((u / 10 : Nat) : Int) = (u : Int) / 10 by omega], hu10.out, by rw [List.length_cons, Nat.add_comm], hcells1.out, hg', by rw [← hds.out, hstep.out]; simp, by rw [List.length_cons]; exact hpow2.out, by rw [List.length_cons]; omega, hbw1⟩
        case measure => simp [intOf]; omega
end Go.Proofs.YtceedmejmmoepaaDoor
