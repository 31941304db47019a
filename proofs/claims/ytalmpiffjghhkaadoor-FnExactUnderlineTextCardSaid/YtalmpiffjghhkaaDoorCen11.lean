/- Centring: SpreadText, JoinSpread and UnderlineText of the program. -/
import Derived.Test.YtalmpiffjghhkaaDoorCen10
import Derived.Test.YtalmpiffjghhkaaDoorCen1
import Derived.Test.YtalmpiffjghhkaaDoorWrB
import Derived.Laws.IdiomStrings
namespace Go.Proofs.YtalmpiffjghhkaaDoor
open Go.RowKit Go.ChangeShapes Go.WideShapes Go.Deep
set_option linter.unusedVariables false
set_option linter.unusedSimpArgs false

theorem sett_byte {s : ByteArray} (h : settB s = true) {k : Nat} (hk : k < s.size) : (s[k]'hk).toNat < 128 := by
  have h1 := settB_line h
  simp only [lineB, Bool.and_eq_true, decide_eq_true_eq] at h1
  by_cases hc : 32 ≤ (s[k]'hk).toNat ∧ (s[k]'hk).toNat ≤ 126
  · omega
  · rw [bytesIn_no hk hc] at h1
    exact absurd h1.2 (by decide)
theorem u8_of (b : UInt8) : UInt8.ofNat b.toNat = b := by simp
set_option maxRecDepth 100000 in
set_option maxHeartbeats 2400000 in
theorem spread_text10_impl (s : ByteArray) (w : World) (hs : s.size ≤ 1048576) :
    Calls Tryd.prog 16 #[.string s] w fun e w' => e = .returned (.tuple #[.string (spR s).1, .int .i64 (spR s).2]) ∧ Below w.heap.size w w' := by
  generalize hr : spR s = r
  replace hr := Lib.hid hr.symm
  cases h1 : settB s with
  | false =>
    have hb : Hid (r = (ByteArray.empty, 2)) := Lib.hid (by rw [hr.out, spR, h1]; rfl)
    have hc := Lib.hid (fun W => sett10 s h1 W (by unfold maxLen; omega))
    clear h1
    go_enter Tryd.func16, Tryd.ntmps16
    go_wp2_with fail
    refine (hc.out _).mono ?_
    rintro e w1 ⟨rfl, hb1⟩
    go_wp2
    go_ret2
    exact ⟨ret_s10 hb.out, hb1⟩
  | true =>
    have hsz := settB_size h1
    have hc := Lib.hid (fun W => sett10 s h1 W (by unfold maxLen; omega))
    have hbt := Lib.hid (fun k (hk : k < s.size) => sett_byte h1 hk)
    have hres : Hid (r = if (100 : Int) < ((spT s).size : Int) then (ByteArray.empty, 5) else (spT s, 0)) := Lib.hid (by rw [hr.out, spR, h1]; rfl)
    clear h1 hr
    go_enter Tryd.func16, Tryd.ntmps16
    go_wp2_with fail
    refine (hc.out _).mono ?_
    rintro e w1 ⟨rfl, hb1⟩
    have hb01 := Lib.hid hb1
    clear hc hb1
    have hwr := Lib.hid (fun c bs W (h : BuiltIs w1.heap.size w1.heap.size bs W) (hc : c < 128) hlen hz => write_byte8 w1.heap.size w1.heap.size c bs W h hc hlen hz)
    go_wp2
    go_loopw [5, 11] (fun _ i wr => ∃ (k : Nat) (L : List UInt8), k ≤ s.size ∧ i = .int .i64 k ∧ L = spI s k ∧ BuiltIs w1.heap.size w1.heap.size L wr ∧ Below w1.heap.size w1 wr) (fun _ i _ => s.size - (intOf i).toNat)
    case atStart => exact ⟨0, [], by omega, rfl, rfl, Lib.IsBuilderF.of (Lib.fresh_isBuilder 46 5 w1), below_a1 _ _⟩
    case round =>
      rename World => wr
      obtain ⟨k, L, hk, rfl, hL, hB, hbw⟩ := hrel
      have hwz := hbw.size
      replace hL := Lib.hid hL
      have hLn : L.length ≤ 2000 := by rw [hL.out, spI_len]; omega
      by_cases hlt : k < s.size
      · have hk0 : (0 : Int) ≤ (k : Int) := Int.natCast_nonneg _
        have hk1 : (k : Int) < (s.size : Int) := by omega
        have hbk := bAt_eq hlt
        have h128 := hbt.out k hlt
        by_cases hk00 : k = 0
        · have g1 : decide (0 < k) = false := decide_eq_false (by omega)
          have g2 : decide ((0 : Int) < (k : Int)) = false := decide_eq_false (by omega)
          have hnx : Hid (L ++ [UInt8.ofNat (s[k]'hlt).toNat] = spI s (k + 1)) := Lib.hid (by rw [u8_of, hL.out, ← hbk]; subst hk00; rfl)
          have hw3 := Lib.hid (hwr.out (s[k]'hlt).toNat L wr hB h128 (by omega) hwz)
          replace hk00 := Lib.hid hk00
          replace hbk := Lib.hid hbk
          replace h128 := Lib.hid h128
          clear hB
          go_wp2_with fail
          refine hw3.out.mono ?_
          rintro e w3 ⟨rfl, hB3, hb3⟩
          replace hB3 := Lib.hid hB3
          have hbe := Lib.hid (hbw.trans hb3)
          clear hw3 hb3
          go_wp2
          go_roundw
          case rel => exact ⟨k + 1, _, by omega, by go_num, hnx.out, hB3.out, hbe.out⟩
          case measure => simp [intOf]; omega
        · have g1 : decide (0 < k) = true := decide_eq_true (by omega)
          have g2 : decide ((0 : Int) < (k : Int)) = true := decide_eq_true (by omega)
          have hnx : Hid (L ++ [UInt8.ofNat 32] ++ [UInt8.ofNat (s[k]'hlt).toNat] = spI s (k + 1)) := Lib.hid (by rw [u8_of, spI_next s hk00, hL.out, ← hbk]; rfl)
          have hw3 := Lib.hid (hwr.out 32 L wr hB (by decide) (by omega) hwz)
          have hw4 := Lib.hid (fun W hBW hz => hwr.out (s[k]'hlt).toNat (L ++ [UInt8.ofNat 32]) W hBW h128 (by rw [List.length_append, List.length_singleton]; omega) hz)
          replace hk00 := Lib.hid hk00
          replace hbk := Lib.hid hbk
          replace h128 := Lib.hid h128
          clear hB
          go_wp2_with fail
          refine hw3.out.mono ?_
          rintro e w3 ⟨rfl, hB3, hb3⟩
          have hbe := Lib.hid (hbw.trans hb3)
          have hz3 := hbe.out.size
          clear hw3 hb3
          go_wp2_with fail
          refine (hw4.out _ hB3 hz3).mono ?_
          rintro e w4 ⟨rfl, hB4, hb4⟩
          replace hB4 := Lib.hid hB4
          have hbf := Lib.hid (hbe.out.trans hb4)
          clear hw4 hb4 hB3
          go_wp2
          go_roundw
          case rel => exact ⟨k + 1, _, by omega, by go_num, hnx.out, hB4.out, hbf.out⟩
          case measure => simp [intOf]; omega
      · obtain rfl : k = s.size := by omega
        have gk : ¬ (s.size : Int) < (s.size : Int) := by omega
        have hLs : (spT s).size = L.length := by rw [hL.out]; rfl
        have hT : Hid ((⟨L.toArray⟩ : ByteArray) = spT s) := Lib.hid (by rw [hL.out]; rfl)
        have hln := Lib.hid (Tryd.Builder_Len_f w1.heap.size w1.heap.size (Lib.byteCells L) wr hB)
        rw [Lib.byteCells_length] at hln
        have hstr := Lib.hid (Tryd.Builder_String_any_f w1.heap.size w1.heap.size L wr hB hwz)
        rw [hLs] at hres
        rw [hT.out] at hstr
        obtain ⟨z, hz⟩ : ∃ z, L.length = z := ⟨_, rfl⟩
        rw [hz] at hln hres
        replace hz := Lib.hid hz
        replace hLs := Lib.hid hLs
        have hbe := Lib.hid (hb01.out.step hbw)
        clear hB
        by_cases h100 : 100 < z
        · have g1 : decide ((100 : Int) < (z : Int)) = true := decide_eq_true (by omega)
          have g2 : decide (100 < z) = true := decide_eq_true h100
          have hbad : Hid (r = (ByteArray.empty, 5)) := Lib.hid (by rw [hres.out, if_pos (by omega)])
          replace h100 := Lib.hid h100
          go_wp2_with fail
          refine hln.out.mono ?_
          rintro e w3 ⟨rfl, rfl⟩
          go_wp2
          go_ret2
          exact ⟨ret_s10 hbad.out, hbe.out⟩
        · have g1 : decide ((100 : Int) < (z : Int)) = false := decide_eq_false (by omega)
          have g2 : decide (100 < z) = false := decide_eq_false h100
          have hgood : Hid (r = (spT s, 0)) := Lib.hid (by rw [hres.out, if_neg (by omega)])
          replace h100 := Lib.hid h100
          generalize spT s = T at *
          go_wp2_with fail
          refine hln.out.mono ?_
          rintro e w3 ⟨rfl, rfl⟩
          go_wp2_with fail
          refine hstr.out.mono ?_
          rintro e w4 ⟨rfl, hB4, hb4⟩
          have hbf := Lib.hid (hb01.out.step (hbw.trans hb4))
          clear hB4 hb4
          go_wp2
          go_ret2
          exact ⟨ret_s10 hgood.out, hbf.out⟩
set_option maxRecDepth 100000 in
set_option maxHeartbeats 2400000 in
theorem join10_impl (s : ByteArray) (w : World) (hs : s.size ≤ 1048576) :
    Calls Tryd.prog 18 #[.string s] w fun e w' => e = .returned (.tuple #[.string (jnR s).1, .int .i64 (jnR s).2]) ∧ Below w.heap.size w w' := by
  generalize hr : jnR s = r
  replace hr := Lib.hid hr.symm
  cases h1 : settB s with
  | false =>
    have hb : Hid (r = (ByteArray.empty, 2)) := Lib.hid (by rw [hr.out, jnR, h1]; rfl)
    have hc := Lib.hid (fun W => sett10 s h1 W (by unfold maxLen; omega))
    clear h1
    go_enter Tryd.func18, Tryd.ntmps18
    go_wp2_with fail
    refine (hc.out _).mono ?_
    rintro e w1 ⟨rfl, hb1⟩
    go_wp2
    go_ret2
    exact ⟨ret_s10 hb.out, hb1⟩
  | true =>
    have hsz := settB_size h1
    have hc := Lib.hid (fun W => sett10 s h1 W (by unfold maxLen; omega))
    have hbt := Lib.hid (fun k (hk : k < s.size) => sett_byte h1 hk)
    have hres : Hid (r = if okI s s.size = true then (⟨(evI s s.size).toArray⟩, 0) else (ByteArray.empty, 8)) := Lib.hid (by rw [hr.out, jnR, h1]; rfl)
    clear h1 hr
    go_enter Tryd.func18, Tryd.ntmps18
    go_wp2_with fail
    refine (hc.out _).mono ?_
    rintro e w1 ⟨rfl, hb1⟩
    have hb01 := Lib.hid hb1
    clear hc hb1
    have hwr := Lib.hid (fun c bs W (h : BuiltIs w1.heap.size w1.heap.size bs W) (hc : c < 128) hlen hz => write_byte8 w1.heap.size w1.heap.size c bs W h hc hlen hz)
    go_wp2
    go_loopw [5, 11] (fun _ i wr => ∃ (k : Nat) (L : List UInt8), k ≤ s.size ∧ i = .int .i64 k ∧ L = evI s k ∧ okI s k = true ∧ BuiltIs w1.heap.size w1.heap.size L wr ∧ Below w1.heap.size w1 wr) (fun _ i _ => s.size - (intOf i).toNat)
    case atStart => exact ⟨0, [], by omega, rfl, rfl, rfl, Lib.IsBuilderF.of (Lib.fresh_isBuilder 46 5 w1), below_a1 _ _⟩
    case round =>
      rename World => wr
      obtain ⟨k, L, hk, rfl, hL, hok, hB, hbw⟩ := hrel
      have hwz := hbw.size
      replace hL := Lib.hid hL
      replace hok := Lib.hid hok
      have hLn : L.length ≤ 2000 := by rw [hL.out]; have := evI_len s k; omega
      by_cases hlt : k < s.size
      · have hk0 : (0 : Int) ≤ (k : Int) := Int.natCast_nonneg _
        have hk1 : (k : Int) < (s.size : Int) := by omega
        have hbk := bAt_eq hlt
        have hrm := rem2 k
        have h128 := hbt.out k hlt
        by_cases hp : k % 2 = 0
        · rw [hp] at hrm
          have hnx : Hid (L ++ [UInt8.ofNat (s[k]'hlt).toNat] = evI s (k + 1)) := Lib.hid (by rw [u8_of, evI, if_pos hp, hL.out, hbk])
          have hok2 : Hid (okI s (k + 1) = true) := Lib.hid (by rw [okI, hok.out, decide_eq_true hp]; rfl)
          have hw3 := Lib.hid (hwr.out (s[k]'hlt).toNat L wr hB h128 (by omega) hwz)
          replace hp := Lib.hid hp
          replace hbk := Lib.hid hbk
          replace h128 := Lib.hid h128
          clear hB
          go_wp2_with fail
          refine hw3.out.mono ?_
          rintro e w3 ⟨rfl, hB3, hb3⟩
          replace hB3 := Lib.hid hB3
          have hbe := Lib.hid (hbw.trans hb3)
          clear hw3 hb3
          go_wp2
          go_roundw
          case rel => exact ⟨k + 1, _, by omega, by go_num, hnx.out, hok2.out, hB3.out, hbe.out⟩
          case measure => simp [intOf]; omega
        · have hp1 : k % 2 = 1 := by omega
          rw [hp1] at hrm
          have hnx : Hid (L = evI s (k + 1)) := Lib.hid (by rw [evI, if_neg hp, hL.out])
          by_cases h32 : (s[k]'hlt).toNat = 32
          · have hok2 : Hid (okI s (k + 1) = true) := Lib.hid (by rw [okI, hok.out, hbk, decide_eq_true h32]; simp)
            have b1 : (((s[k]'hlt).toNat : Int) == 32) = true := beq_iff_eq.2 (by omega)
            have b2 : (((s[k]'hlt).toNat : Int) != 32) = false := by rw [bne, b1]; rfl
            have b3 : ((s[k]'hlt).toNat == 32) = true := beq_iff_eq.2 h32
            replace hp := Lib.hid hp
            replace hp1 := Lib.hid hp1
            replace h32 := Lib.hid h32
            replace hbk := Lib.hid hbk
            replace h128 := Lib.hid h128
            replace hB := Lib.hid hB
            go_wp2
            go_roundw
            case rel => exact ⟨k + 1, L, by omega, by go_num, hnx.out, hok2.out, hB.out, hbw⟩
            case measure => simp [intOf]; omega
          · have hbad : Hid (r = (ByteArray.empty, 8)) := Lib.hid (by
              have : okI s (k + 1) = false := by rw [okI, hok.out, hbk, decide_eq_false h32, decide_eq_false hp]; rfl
              rw [hres.out, okI_no (k := k + 1) (by omega) this]; rfl)
            have b1 : (((s[k]'hlt).toNat : Int) == 32) = false := beq_eq_false_iff_ne.2 (by omega)
            have b2 : (((s[k]'hlt).toNat : Int) != 32) = true := by rw [bne, b1]; rfl
            have b3 : ((s[k]'hlt).toNat == 32) = false := beq_eq_false_iff_ne.2 h32
            have hbe := Lib.hid (hb01.out.step hbw)
            replace hp := Lib.hid hp
            replace hp1 := Lib.hid hp1
            replace h32 := Lib.hid h32
            replace hbk := Lib.hid hbk
            replace h128 := Lib.hid h128
            clear hB
            go_wp2
            go_ret2
            exact ⟨ret_s10 hbad.out, hbe.out⟩
      · obtain rfl : k = s.size := by omega
        have gk : ¬ (s.size : Int) < (s.size : Int) := by omega
        have hgood : Hid (r = (⟨L.toArray⟩, 0)) := Lib.hid (by rw [hres.out, hok.out, hL.out]; rfl)
        have hstr := Lib.hid (Tryd.Builder_String_any_f w1.heap.size w1.heap.size L wr hB hwz)
        generalize (⟨L.toArray⟩ : ByteArray) = T at *
        clear hB
        go_wp2_with fail
        refine hstr.out.mono ?_
        rintro e w4 ⟨rfl, hB4, hb4⟩
        have hbf := Lib.hid (hb01.out.step (hbw.trans hb4))
        clear hB4 hb4
        go_wp2
        go_ret2
        exact ⟨ret_s10 hgood.out, hbf.out⟩
/-- Bytes in a block of their own, with the run-time's mark behind them. -/
def UB (B g : Nat) (l : List UInt8) (w : World) : Prop :=
  B ≤ g ∧ ∃ cs m, w.heap[g]? = some (.cells cs 5 (m, m + 1)) ∧ cs.size = m ∧ ∀ (j : Nat) b, l[j]? = some b → cs[j]? = some (.int .u8 (b.toNat : Int))
theorem UB.cell {B g : Nat} {l : List UInt8} {w : World} (h : UB B g l w) {j : Nat} {b : UInt8} (hj : l[j]? = some b) : w.cell? ⟨g, j, none⟩ = some (.int .u8 (b.toNat : Int)) := by
  obtain ⟨_, cs, m, h1, h2, h3⟩ := h
  simp [World.cell?, h1, h3 j b hj]
theorem UB.lt {B g : Nat} {l : List UInt8} {w : World} (h : UB B g l w) : g < w.heap.size := by
  obtain ⟨_, cs, m, h1, h2, h3⟩ := h
  exact own_lt h1
theorem UB.frozen {B g : Nat} {l : List UInt8} {w : World} (h : UB B g l w) {j : Nat} {b : UInt8} (hj : l[j]? = some b) : w.frozen? ⟨g, j, none⟩ = false := by
  obtain ⟨_, cs, m, h1, h2, h3⟩ := h
  have := (Array.getElem?_eq_some_iff.1 (h3 j b hj)).1
  have : ¬ m ≤ j := by omega
  simp [World.frozen?, h1, this]
theorem UB.conv {B g c : Nat} {l : List UInt8} {w : World} (h : UB B g l w) : (convert 44 9 (.slice (some ⟨g, 0, none⟩) l.length c)).run Tryd.prog w = .ok (.string ⟨l.toArray⟩) w :=
  run_convert_bytes_back w _ _ _ _ _ l rfl rfl rfl (fun j hj => by
    rw [show (⟨g, 0, none⟩ : Addr).add j = ⟨g, j, none⟩ by simp [Addr.add]; intro h; exact h.symm]
    exact h.cell (List.getElem?_eq_getElem hj))
theorem UB.set {B g : Nat} {l : List UInt8} {w : World} (h : UB B g l w) {j : Nat} {b b' : UInt8} (hj : l[j]? = some b) : UB B g (l.set j b') (w.setCell ⟨g, j, none⟩ (.int .u8 (b'.toNat : Int))) := by
  obtain ⟨h0, cs, m, h1, h2, h3⟩ := h
  have hlt := (Array.getElem?_eq_some_iff.1 (h3 j b hj)).1
  refine ⟨h0, cs.setIfInBounds j (.int .u8 (b'.toNat : Int)), m, ?_, by simp [h2], ?_⟩
  · have hg := own_lt h1
    have hg2 := (Array.getElem?_eq_some_iff.1 h1).2
    simp only [World.setCell]
    rw [Array.getElem?_modify, if_pos rfl, h1]
    rfl
  · intro i x hx
    rw [List.getElem?_set] at hx
    rw [Array.getElem?_setIfInBounds]
    split at hx
    · rename_i hji
      subst hji
      rw [if_pos rfl, if_pos hlt]
      split at hx
      · cases hx; rfl
      · cases hx
    · rename_i hji
      rw [if_neg hji]
      exact h3 i x hx
def unL (l : List UInt8) (k : Nat) : List UInt8 := (l.take k).map unC ++ l.drop k
theorem unL_len (l : List UInt8) (k : Nat) : (unL l k).length = l.length := by rw [unL, List.length_append, List.length_map, ← List.length_append, List.take_append_drop]
theorem unL_at {l : List UInt8} {k : Nat} {b : UInt8} (h : l[k]? = some b) : (unL l k)[k]? = some b := by
  have hk := (List.getElem?_eq_some_iff.1 h).1
  rw [unL, List.getElem?_append_right (by simp; omega), List.length_map, List.length_take, Nat.min_eq_left (by omega), Nat.sub_self, List.getElem?_drop]
  exact h
theorem unL_next {l : List UInt8} {k : Nat} {b : UInt8} (h : l[k]? = some b) : unL l (k + 1) = (unL l k).set k (unC b) := by
  have hk := (List.getElem?_eq_some_iff.1 h).1
  have hb := (List.getElem?_eq_some_iff.1 h).2
  have hd : l.drop k = b :: l.drop (k + 1) := by rw [List.drop_eq_getElem_cons hk, hb]
  rw [unL, unL, take8 h, List.map_append, hd, List.set_append_right _ _ (by simp; omega), List.length_map, List.length_take, Nat.min_eq_left (by omega), Nat.sub_self]
  simp
theorem set_same {l : List UInt8} {k : Nat} {b : UInt8} (h : l[k]? = some b) : l.set k b = l := by
  apply List.ext_getElem?
  intro i
  rw [List.getElem?_set]
  split
  · rename_i hi
    subst hi
    rw [h, if_pos (List.getElem?_eq_some_iff.1 h).1]
  · rfl
set_option maxRecDepth 100000 in
set_option maxHeartbeats 2400000 in
theorem under10_impl (s : ByteArray) (w : World) (hs : s.size ≤ 1048576) :
    Calls Tryd.prog 20 #[.string s] w fun e w' => e = .returned (.tuple #[.string (unR s).1, .int .i64 (unR s).2]) ∧ Below w.heap.size w w' := by
  generalize hr : unR s = r
  replace hr := Lib.hid hr.symm
  cases h1 : settB s with
  | false =>
    have hb : Hid (r = (ByteArray.empty, 2)) := Lib.hid (by rw [hr.out, unR, h1]; rfl)
    have hc := Lib.hid (fun W => sett10 s h1 W (by unfold maxLen; omega))
    clear h1
    go_enter Tryd.func20, Tryd.ntmps20
    go_wp2_with fail
    refine (hc.out _).mono ?_
    rintro e w1 ⟨rfl, hb1⟩
    go_wp2
    go_ret2
    exact ⟨ret_s10 hb.out, hb1⟩
  | true =>
    have hsz := settB_size h1
    have hc := Lib.hid (fun W => sett10 s h1 W (by unfold maxLen; omega))
    have hres : Hid (r = (unT s, 0)) := Lib.hid (by rw [hr.out, unR, h1]; rfl)
    clear h1 hr
    have hcv := fun W => run_bytes_of_string (P := Tryd.prog) W 9 44 5 s rfl rfl rfl
    go_enter Tryd.func20, Tryd.ntmps20
    go_wp2_with fail
    refine (hc.out _).mono ?_
    rintro e w1 ⟨rfl, hb1⟩
    have hb01 := Lib.hid hb1
    have hU0 : Hid (UB w1.heap.size w1.heap.size s.data.toList (w1.alloc (.cells (bytesRow s (grownCap w1 s.size 0 5)) 5 ((bytesRow s (grownCap w1 s.size 0 5)).size, (bytesRow s (grownCap w1 s.size 0 5)).size + 1))).drew) := Lib.hid (by
      refine ⟨Nat.le_refl _, _, _, heap_alloc_new w1 _, rfl, fun j b hj => ?_⟩
      have hj' := List.getElem?_eq_some_iff.1 hj
      have := bytesRow_at s (grownCap w1 s.size 0 5) j hj'.1
      rw [this]
      rw [← hj'.2]
      rfl)
    have hbU : Hid (Below w1.heap.size w1 (w1.alloc (.cells (bytesRow s (grownCap w1 s.size 0 5)) 5 ((bytesRow s (grownCap w1 s.size 0 5)).size, (bytesRow s (grownCap w1 s.size 0 5)).size + 1))).drew) := Lib.hid ((Below.refl _ w1).alloc (Nat.le_refl _) _).drew
    clear hc hb1
    go_wp2_with fail
    generalize grownCap w1 s.size 0 5 = cp at *
    generalize (w1.alloc (.cells (bytesRow s cp) 5 ((bytesRow s cp).size, (bytesRow s cp).size + 1))).drew = w2 at *
    go_loopw [5, 13] (fun _ i wr => ∃ (k : Nat), k ≤ s.size ∧ i = .int .i64 k ∧ UB w1.heap.size w1.heap.size (unL s.data.toList k) wr ∧ Below w1.heap.size w1 wr) (fun _ i _ => s.size - (intOf i).toNat)
    case atStart => exact ⟨0, by omega, rfl, hU0.out, hbU.out⟩
    case round =>
      rename World => wr
      obtain ⟨k, hk, rfl, hU, hbw⟩ := hrel
      have hwz := hbw.size
      by_cases hlt : k < s.size
      · have hk0 : (0 : Int) ≤ (k : Int) := Int.natCast_nonneg _
        have hk1 : (k : Int) < (s.size : Int) := by omega
        obtain ⟨b, hb⟩ : ∃ b, s.data.toList[k]? = some b := ⟨_, List.getElem?_eq_getElem (show k < s.data.toList.length from hlt)⟩
        have ha := unL_at hb
        have hnx := unL_next hb
        have c0 := hU.cell ha
        have f0 := hU.frozen ha
        have hgl := hU.lt
        by_cases h32 : b.toNat = 32
        · have b1 : ((b.toNat : Int) == 32) = true := beq_iff_eq.2 (by omega)
          have b2 : ((b.toNat : Int) != 32) = false := by rw [bne, b1]; rfl
          have b3 : (b.toNat == 32) = true := beq_iff_eq.2 h32
          have hU2 : Hid (UB w1.heap.size w1.heap.size (unL s.data.toList (k + 1)) wr) := Lib.hid (by
            rw [hnx, show unC b = b by rw [unC, if_pos h32]; exact (UInt8.toNat_inj.1 h32).symm, set_same ha]
            exact hU)
          replace h32 := Lib.hid h32
          replace hb := Lib.hid hb
          replace ha := Lib.hid ha
          replace hnx := Lib.hid hnx
          clear hU
          go_wp2
          go_roundw
          case rel => exact ⟨k + 1, by omega, by go_num, hU2.out, hbw⟩
          case measure => simp [intOf]; omega
        · have b1 : ((b.toNat : Int) == 32) = false := beq_eq_false_iff_ne.2 (by omega)
          have b2 : ((b.toNat : Int) != 32) = true := by rw [bne, b1]; rfl
          have b3 : (b.toNat == 32) = false := beq_eq_false_iff_ne.2 h32
          have hU2 : Hid (UB w1.heap.size w1.heap.size (unL s.data.toList (k + 1)) (wr.setCell ⟨w1.heap.size, k, none⟩ (.int .u8 95))) := Lib.hid (by
            rw [hnx, show unC b = 95 by rw [unC, if_neg h32]]
            exact hU.set (b' := 95) ha)
          have hbw2 := Lib.hid (hbw.setCell (p := ⟨w1.heap.size, k, none⟩) (Nat.le_refl _) (.int .u8 95))
          replace h32 := Lib.hid h32
          replace hb := Lib.hid hb
          replace ha := Lib.hid ha
          replace hnx := Lib.hid hnx
          clear hU
          go_wp2
          go_roundw
          case rel => exact ⟨k + 1, by omega, by go_num, hU2.out, hbw2.out⟩
          case measure => simp [intOf]; omega
      · obtain rfl : k = s.size := by omega
        have gk : ¬ (s.size : Int) < (s.size : Int) := by omega
        have hcv2 := hU.conv (c := cp)
        rw [unL_len] at hcv2
        rw [show s.data.toList.length = s.size from rfl] at hcv2
        have hT : (⟨(unL s.data.toList s.size).toArray⟩ : ByteArray) = unT s := by
          rw [unT, unL, List.take_of_length_le (show s.data.toList.length ≤ s.size from Nat.le_refl _), List.drop_of_length_le (show s.data.toList.length ≤ s.size from Nat.le_refl _), List.append_nil]
        rw [hT] at hcv2
        have hbe := Lib.hid (hb01.out.step hbw)
        clear hU hT
        generalize unT s = T at *
        go_wp2
        go_ret2
        exact ⟨ret_s10 hres.out, hbe.out⟩
end Go.Proofs.YtalmpiffjghhkaaDoor
