/- Rows of bytes that a call owns; texts of racks. -/
import Derived.Test.YtlmjoekiflnjgaaOwn8
import Derived.Test.YtlmjoekiflnjgaaBuild
import Derived.Test.YtlmjoekiflnjgaaTab1
namespace Go.Proofs.Ytlmjoekiflnjgaa
open Go.RowKit Go.ChangeShapes Go.WideShapes Go.Deep
set_option linter.unusedVariables false
set_option linter.unusedSimpArgs false

def byteU8 (b : UInt8) : Value := .int .u8 (b.toNat : Int)
/-- The bytes of a row that the call owns. -/
abbrev OByt8 (w : World) (base : Nat) (v : Value) (l : List UInt8) : Prop := w.ownsRow base 5 1 v l.length (l.map byteU8)
def lenV8 : Value → Nat
  | .slice _ n _ => n
  | _ => 0
theorem obyt8_len {w : World} {base : Nat} {v : Value} {l : List UInt8} (h : OByt8 w base v l) : lenV8 v = l.length ∧ ∃ A c, v = .slice A l.length c := by
  obtain ⟨_, ⟨rfl, hn⟩ | ⟨g, cap, cur, rfl, _⟩⟩ := h
  · exact ⟨hn.symm, none, 0, by rw [hn]⟩
  · exact ⟨rfl, _, _, rfl⟩
/-- A row that is not empty: where its bytes lie, and what a store leaves. -/
theorem obyt8_at {w : World} {base : Nat} {v : Value} {l : List UInt8} (h : OByt8 w base v l) (hl : 0 < l.length) :
    ∃ g cap, v = .slice (some ⟨g, 0, none⟩) l.length cap ∧ base ≤ g ∧ g < w.heap.size ∧ (∀ i b, l[i]? = some b → w.cell? ⟨g, i, none⟩ = some (.int .u8 (b.toNat : Int))) ∧ (∀ i, w.frozen? ⟨g, i, none⟩ = false) ∧
      ∀ i b, i < l.length → OByt8 (w.setCell ⟨g, i, none⟩ (.int .u8 (b.toNat : Int))) base v (l.set i b) := by
  obtain ⟨hlen, ⟨rfl, hn⟩ | ⟨g, cap, cur, rfl, hb, hg, hc, hm, hs, ht⟩⟩ := h
  · omega
  · refine ⟨g, cap, rfl, hb, (Array.getElem?_eq_some_iff.1 hg).1, fun i b hi => ?_, fun i => by simp [World.frozen?, hg], fun i b hi => ?_⟩
    · have h1 : (l.map byteU8)[i]? = some (byteU8 b) := by simp [hi]
      have hil : i < l.length := (List.getElem?_eq_some_iff.1 hi).1
      rw [← ht, List.getElem?_take] at h1
      rw [if_pos (by omega)] at h1
      simp [World.cell?, hg]
      simpa [byteU8] using h1
    · refine ⟨by simp, .inr ⟨g, cap, cur.setIfInBounds i (byteU8 b), by simp, hb, ?_, by simpa using hc, hm, by simpa using hs, ?_⟩⟩
      · simp [World.setCell, Array.getElem?_modify, hg, byteU8]
      · rw [Array.toList_setIfInBounds, List.take_set, List.map_set]
        simp only [List.length_set]
        rw [ht]
theorem obyt8_conv {w : World} {base : Nat} {v : Value} {l : List UInt8} (h : OByt8 w base v l) : (convert 22 9 v).run Try.prog w = .ok (.string ⟨l.toArray⟩) w := by
  rcases Nat.eq_zero_or_pos l.length with h0 | h0
  · obtain rfl := List.length_eq_zero_iff.1 h0
    obtain ⟨hlen, ⟨rfl, hn⟩ | ⟨g, cap, cur, rfl, hb, hg, hc, hm, hs, ht⟩⟩ := h
    · have := run_convert_bytes_string (P := Try.prog) w 22 9 5 none 0 0 Try.underlying22 Try.underlying5 Try.underlying9
      rw [this]
      rfl
    · exact run_convert_bytes_back (P := Try.prog) w 22 9 5 ⟨g, 0, none⟩ cap [] Try.underlying22 Try.underlying5 Try.underlying9 (fun j hj => by simp at hj)
  · obtain ⟨g, cap, rfl, _, _, hc, _⟩ := obyt8_at h h0
    exact run_convert_bytes_back (P := Try.prog) w 22 9 5 ⟨g, 0, none⟩ cap l Try.underlying22 Try.underlying5 Try.underlying9 (fun j hj => by
      have := hc j l[j] (List.getElem?_eq_getElem hj)
      rw [← this]
      unfold Addr.add
      split
      · rename_i e; rw [e]
      · simp)
theorem one8u (x : Int) : ∀ u ∈ [Value.int .u8 x], u.oneCell' = true := by
  intro u hu
  simp only [List.mem_cons, List.not_mem_nil, or_false] at hu
  rcases hu with rfl; rfl
theorem owns_new8u (w : World) : OByt8 (w.alloc (.cells #[] 5)) w.heap.size (.slice (some ⟨w.heap.size, 0, none⟩) 0 0) [] := owns_new8 w 5
theorem byt_snoc (l : List UInt8) (b : UInt8) (x : Int) (h : (b.toNat : Int) = x) : (l ++ [b]).map byteU8 = l.map byteU8 ++ [.int .u8 x] := by
  subst h
  simp [byteU8]
/-- One stop more in the text of a rack. -/
def rstep (acc : List UInt8) (x : Int) : List UInt8 := acc ++ List.replicate (x.toNat - acc.length) 46 ++ [84]
def rackL (ps : List Int) : List UInt8 := ps.foldl rstep []
def rackTx (ps : List Int) : ByteArray := if rackB ps = true then ⟨(rackL ps).toArray⟩ else ByteArray.empty
theorem rackL_take {ps : List Int} {k : Nat} {x : Int} (h : ps[k]? = some x) : rackL (ps.take (k + 1)) = rstep (rackL (ps.take k)) x := by
  rw [rackL, take8 h, List.foldl_append]
  rfl
theorem rstep_len {acc : List UInt8} {x : Int} (h : acc.length ≤ x.toNat) : (rstep acc x).length = x.toNat + 1 := by
  simp [rstep]
  omega
theorem rack_fits {hi : Int} : ∀ {ps : List Int} {lo : Int} {acc : List UInt8}, risesB hi lo ps = true → 0 ≤ lo → acc.length = lo.toNat → ∀ (k : Nat) (x : Int), ps[k]? = some x → ((ps.take k).foldl rstep acc).length ≤ x.toNat
  | [], _, _, _, _, _, k, x, h => by simp at h
  | y :: r, lo, acc, hr, h0, ha, 0, x, h => by
    simp only [risesB, Bool.and_eq_true, inR_iff] at hr
    simp at h
    subst h
    simp
    omega
  | y :: r, lo, acc, hr, h0, ha, k + 1, x, h => by
    simp only [risesB, Bool.and_eq_true, inR_iff] at hr
    simp only [List.getElem?_cons_succ] at h
    simp only [List.take_succ_cons, List.foldl_cons]
    exact rack_fits hr.2 (by omega) (by rw [rstep_len (by omega)]; omega) k x h

set_option maxHeartbeats 2000000 in
set_option maxRecDepth 100000 in
/-- A byte is written. -/
theorem write_byte8 (B b c : Nat) (bs : List UInt8) (w : World) (h : BuiltIs B b bs w) (hc : c < 128) (hlen : bs.length + 1 ≤ 140737488355328) (hBw : B ≤ w.heap.size) :
    Calls Try.prog 30 #[.pointer (some ⟨b, 0, none⟩), .int .u8 (c : Int)] w fun e w' => e = .returned .nilIface ∧ (BuiltIs B b (bs ++ [UInt8.ofNat c]) w' ∧ Below B w w') := by
  obtain ⟨i0, hi, hz0, hz1, hz2⟩ := info_parts Try.infoU8
  have hbl : (Lib.byteCells bs).length = bs.length := Lib.byteCells_length bs
  go_enter Try.func30, Try.ntmps30
  go_wp2_with fail
  refine (check_any B b _ _ h).mono ?_
  rintro e w1 ⟨rfl, h1, hb1, hk1⟩
  obtain ⟨hB, v, hbk, hown, hne⟩ := h1
  have c0 : w1.cell? ⟨b, 0, none⟩ = some (.pointer (some ⟨b, 0, none⟩)) := by rw [Lib.cell_of_heap hbk]; rfl
  have c1 : w1.cell? ⟨b, 1, none⟩ = some v := by rw [Lib.cell_of_heap hbk]; rfl
  have hlt : b < w1.heap.size := (Array.getElem?_eq_some_iff.1 hbk).1
  have hwz := hb1.size
  rw [hbl] at hown
  go_wp2_with (at_builtin; refine wpList_append_ownF _ rfl _ _ 22 rfl B 5 i0 (.int .u8 0) 1 1 Try.underlying22 hi hz0 hz1 hz2 rfl (by decide) _ _ _ rfl (hown.alloc _) ⟨w1.heap.size, 0, none⟩ 1 1 [.int .u8 (c : Int)] rfl rfl (news8 _ _ _) (one8u _) (by unfold maxLen; omega) (by omega) (by simp; omega) ?_)
  intro v' w2 hown' hgrow _
  have hb2 : w2.heap[b]? = some (.cells #[.pointer (some ⟨b, 0, none⟩), v] 42 (0, 0)) := by
    rw [hgrow.block b (by simp; omega) (fun e => hne e.symm), Lib.alloc_old w1 _ b hlt]
    exact hbk
  have d0 : w2.cell? ⟨b, 0, none⟩ = some (.pointer (some ⟨b, 0, none⟩)) := by rw [Lib.cell_of_heap hb2]; rfl
  have d1 : w2.cell? ⟨b, 1, none⟩ = some v := by rw [Lib.cell_of_heap hb2]; rfl
  have f1 : w2.frozen? ⟨b, 1, none⟩ = false := Lib.frozen_of_heap hb2 1
  obtain ⟨ao, n', cap, rfl⟩ : ∃ ao n' cap, v' = .slice ao n' cap := by
    rcases hown'.2 with ⟨hv, _⟩ | ⟨g, cap, cur, fz, hv, _⟩
    · exact ⟨_, _, _, hv⟩
    · exact ⟨_, _, _, hv⟩
  go_wp2
  go_ret
  refine ⟨rfl, ?_, ?_⟩
  · exact .inr (Lib.BuilderAtF.put (T := 42) (e := 5) hB hb2 (bs' := Lib.byteCells (bs ++ [UInt8.ofNat c])) (by rw [Lib.byteCells_append, ← cell_rune c hc]; simpa [Lib.byteCells_length] using hown') (by decide))
  · exact ((hb1.alloc (by have := hb1.size; omega) _).grown hgrow (by have := hb1.size; simp; omega) (fun k hk => (hown.lt k hk).1)).setCell (p := ⟨b, 1, none⟩) hB _
theorem BuiltAt8.below {T e : TypeId} {B b : Nat} {p : Value} {bs : List Value} {w w' : World} (h : Lib.BuilderAtF T e B b p bs w) (hb : Below w.heap.size w w') : Lib.BuilderAtF T e B b p bs w' := by
  obtain ⟨hB, v, hbk, hown, hne⟩ := h
  exact ⟨hB, v, (hb.block _ (Array.getElem?_eq_some_iff.1 hbk).1).trans hbk, hown.kept (grown_below hb none) (by cases v.ownBlock <;> simp), hne⟩
theorem built8_below {T e : TypeId} {B b : Nat} {bs : List Value} {w w' : World} (h : Lib.IsBuilderF T e B b bs w) (hb : Below w.heap.size w w') : Lib.IsBuilderF T e B b bs w' :=
  h.elim (fun h => .inl (BuiltAt8.below h hb)) (fun h => .inr (BuiltAt8.below h hb))
theorem below_step8 {B : Nat} {a b c : World} (h : Below B a b) (k : Below b.heap.size b c) (hB : B ≤ b.heap.size) : Below B a c := h.trans (k.mono hB)
theorem repeat_one8 (b : UInt8) : ∀ c, Lib.repeatL [b] c = List.replicate c b
  | 0 => rfl
  | c + 1 => by rw [Lib.repeatL, repeat_one8 b c]; rfl

set_option maxRecDepth 100000 in
set_option maxHeartbeats 3200000 in
theorem rt_specV (A : Option Addr) (n c : Nat) (ps : List Int) {T : ByteArray} (hT : rackTx ps = T) (w : World) (h : Ints w A n ps) (hn : n ≤ 1048576) :
    Calls Try.prog 16 #[.slice A n c] w fun e w' => e = .returned (.string T) ∧ Below w.heap.size w w' := by
  have hl := Lib.hid h.1
  cases h1 : rackB ps with
  | false =>
    obtain rfl : T = ByteArray.empty := by rw [← hT, rackTx, h1]; rfl
    have hc1 := Lib.hid (ok8_spec A n c ps h1 w h hn)
    clear h1 hT h
    go_enter Try.func16, Try.ntmps16
    go_wp2_with fail
    refine hc1.out.mono ?_
    rintro e w1 ⟨rfl, hb1⟩
    go_wp2
    go_ret
    exact ⟨rfl, hb1⟩
  | true =>
    have hc1 := Lib.hid (ok8_spec A n c ps h1 w h hn)
    obtain ⟨h12, hris⟩ := rackB_len h1
    rw [hl.out] at h12
    have hfit := Lib.hid (fun k x hx => rack_fits (acc := []) hris (by omega) rfl k x hx)
    have hrng := Lib.hid (fun x hx => rises_ge hris x hx)
    have hres : Hid (T = ⟨(rackL ps).toArray⟩) := Lib.hid (by rw [← hT, rackTx, h1]; rfl)
    obtain ⟨i0, hi, hz0, hz1, hz2⟩ := info_parts Try.infoU8
    clear h1 hT hris
    go_enter Try.func16, Try.ntmps16
    go_wp2_with fail
    refine hc1.out.mono ?_
    rintro e w1 ⟨rfl, hb1⟩
    have hS := h.below hb1
    replace hb1 := Lib.hid hb1
    clear h hc1
    go_wp2
    go_loopw [3, 4] (fun v i wr => ∃ (k : Nat) (L : List UInt8), k ≤ n ∧ i = .int .i64 k ∧ L = rackL (ps.take k) ∧ L.length ≤ 121 ∧ Below w1.heap.size w1 wr ∧ OByt8 wr w1.heap.size v L) (fun _ i _ => n - (intOf i).toNat)
    case atStart => exact ⟨0, [], by omega, rfl, rfl, by simp, below_a1 _ _, owns_new8u w1⟩
    case round =>
      obtain ⟨k, L, hk, rfl, hL, hLn, hbw, hrow⟩ := hrel
      replace hL := Lib.hid hL
      by_cases hlt : k < n
      · obtain ⟨b, off, x, hA, hb, hx, c0⟩ := int_at hS hlt
        have hx0 := hrng.out x (List.mem_of_getElem? hx.out)
        have hLx := hfit.out k x hx.out
        rw [show List.foldl rstep [] (ps.take k) = L from hL.out.symm] at hLx
        have hnxt := Lib.hid (rackL_take hx.out)
        have hrs : rstep L x = L ++ List.replicate (x.toNat - L.length) 46 ++ [84] := rfl
        replace hrs := Lib.hid hrs
        have hlen2 := Lib.hid (rstep_len hLx)
        have hrow0 := Lib.hid hrow
        have hbw0 := Lib.hid hbw
        clear hrow
        have hk0 : (0 : Int) ≤ (k : Int) := Int.natCast_nonneg _
        have hk1 : (k : Int) < (n : Int) := by omega
        go_wp2
        go_loopw [3] (fun v wr => ∃ (j : Nat) (M : List UInt8), M.length = L.length + j ∧ M.length ≤ x.toNat ∧ M = L ++ List.replicate j 46 ∧ Below w1.heap.size w1 wr ∧ OByt8 wr w1.heap.size v M) (fun v _ => x.toNat - lenV8 v)
        case atStart => exact ⟨0, L, by omega, hLx, by simp, hbw0.out, hrow0.out⟩
        case round =>
          obtain ⟨j, M, hMj, hMx, hM, hbw, hrow⟩ := hrel
          replace hM := Lib.hid hM
          have hwz := hbw.size
          have c1 := (hbw.cell (p := ⟨b, off + k, none⟩) hb).trans c0
          obtain ⟨hlv, A5, c5', rfl⟩ := obyt8_len hrow
          subst hA
          replace hMj := Lib.hid hMj
          have hrl := Lib.hid hrow
          clear hrow
          by_cases hlt2 : (M.length : Int) < x
          · have hM2 : Hid (M ++ [46] = L ++ List.replicate (j + 1) 46) := Lib.hid (by rw [hM.out, List.append_assoc, ← List.replicate_succ'])
            go_wp2_with (at_builtin; refine wpList_append_own _ rfl _ _ 22 rfl w1.heap.size 5 i0 _ 1 1 Try.underlying22 hi hz0 hz1 hz2 rfl (by decide) _ _ _ rfl (hrl.out.alloc _) ⟨wr.heap.size, 0, none⟩ 1 1 [.int .u8 46] rfl rfl (news8 _ _ _) (one8u _) (by unfold maxLen; omega) (by omega) (by simp; omega) ?_)
            intro vqq wqq hownqq hgrqq hnilqq
            have hgqqq := grown_trans (grown_below (below_a1 wr _) _) hgrqq
            clear hgrqq hnilqq
            have hq : Hid (wqq.ownsRow w1.heap.size 5 1 vqq ((M ++ [46]).length) ((M ++ [46]).map byteU8) ∧ Below w1.heap.size w1 wqq) := Lib.hid ⟨by rw [byt_snoc _ 46 46 rfl, List.length_append]; exact hownqq, hbw.grown hgqqq hwz (fun j hj => owns_ge8 hrl.out hj)⟩
            clear hownqq hgqqq
            clear hrl
            obtain ⟨hlv2, _⟩ := obyt8_len hq.out.1
            replace hlv2 := Lib.hid hlv2
            go_wp2
            go_roundw
            case rel => exact ⟨j + 1, M ++ [46], by have := hMj.out; simp; omega, by simp; omega, hM2.out, hq.out.2, hq.out.1⟩
            case measure =>
              rw [hlv2.out]
              simp [lenV8]
              omega
          · have hMe : Hid (M = L ++ List.replicate (x.toNat - L.length) 46) := Lib.hid (by rw [hM.out]; congr 2; have := hMj.out; omega)
            have hz : Hid (M ++ [84] = rackL (ps.take (k + 1))) := Lib.hid (by rw [hnxt.out, ← hL.out, hrs.out, ← hMe.out])
            go_wp2_with (at_builtin; refine wpList_append_own _ rfl _ _ 22 rfl w1.heap.size 5 i0 _ 1 1 Try.underlying22 hi hz0 hz1 hz2 rfl (by decide) _ _ _ rfl (hrl.out.alloc _) ⟨wr.heap.size, 0, none⟩ 1 1 [.int .u8 84] rfl rfl (news8 _ _ _) (one8u _) (by unfold maxLen; omega) (by omega) (by simp; omega) ?_)
            intro vqq wqq hownqq hgrqq hnilqq
            have hgqqq := grown_trans (grown_below (below_a1 wr _) _) hgrqq
            clear hgrqq hnilqq
            have hq : Hid (wqq.ownsRow w1.heap.size 5 1 vqq ((M ++ [84]).length) ((M ++ [84]).map byteU8) ∧ Below w1.heap.size w1 wqq) := Lib.hid ⟨by rw [byt_snoc _ 84 84 rfl, List.length_append]; exact hownqq, hbw.grown hgqqq hwz (fun j hj => owns_ge8 hrl.out hj)⟩
            clear hownqq hgqqq
            clear hrl
            go_wp2
            go_roundw
            case rel => exact ⟨k + 1, M ++ [84], by omega, by go_num, hz.out, by simp; omega, hq.out.2, hq.out.1⟩
            case measure => simp [intOf]; omega
      · obtain rfl : k = n := by omega
        have hall : Hid (L = rackL ps) := Lib.hid (by rw [hL.out, List.take_of_length_le (by rw [hl.out]; omega)])
        have hconv := obyt8_conv hrow
        obtain ⟨_, A5, c5', rfl⟩ := obyt8_len hrow
        clear hrow
        go_wp2
        go_ret
        exact ⟨by rw [hres.out, ← hall.out]; rfl, hb1.out.step hbw⟩
theorem rt_spec (A : Option Addr) (n c : Nat) (ps : List Int) (w : World) (h : Ints w A n ps) (hn : n ≤ 1048576) (hx : ∀ x ∈ ps, intGood x) :
    Calls Try.prog 16 #[.slice A n c] w fun e w' => e = .returned (.string (rackTx ps)) ∧ Below w.heap.size w w' := rt_specV A n c ps rfl w h hn
set_option maxRecDepth 100000 in
set_option maxHeartbeats 3200000 in
theorem rt_implV (A : Option Addr) (n c : Nat) (ps : List Int) {T : ByteArray} (hT : rackTx ps = T) (w : World) (h : Ints w A n ps) (hn : n ≤ 1048576) :
    Calls Try.prog 15 #[.slice A n c] w fun e w' => e = .returned (.string T) ∧ Below w.heap.size w w' := by
  have hl := Lib.hid h.1
  cases h1 : rackB ps with
  | false =>
    obtain rfl : T = ByteArray.empty := by rw [← hT, rackTx, h1]; rfl
    have hc1 := Lib.hid (vr_implV A n c ps h1 w h hn)
    clear h1 hT h
    go_enter Try.func15, Try.ntmps15
    go_wp2_with fail
    refine hc1.out.mono ?_
    rintro e w1 ⟨rfl, hb1⟩
    go_wp2
    go_ret
    exact ⟨rfl, hb1⟩
  | true =>
    have hc1 := Lib.hid (vr_implV A n c ps h1 w h hn)
    obtain ⟨h12, hris⟩ := rackB_len h1
    rw [hl.out] at h12
    have hfit := Lib.hid (fun k x hx => rack_fits (acc := []) hris (by omega) rfl k x hx)
    have hrng := Lib.hid (fun x hx => rises_ge hris x hx)
    have hres : Hid (T = ⟨(rackL ps).toArray⟩) := Lib.hid (by rw [← hT, rackTx, h1]; rfl)
    clear h1 hT hris
    go_enter Try.func15, Try.ntmps15
    go_wp2_with fail
    refine hc1.out.mono ?_
    rintro e w1 ⟨rfl, hb1⟩
    have hS := h.below hb1
    replace hb1 := Lib.hid hb1
    clear h hc1
    go_wp2
    go_loopw [11] (fun i wr => ∃ (k : Nat) (L : List UInt8), k ≤ n ∧ i = .int .i64 k ∧ L = rackL (ps.take k) ∧ L.length ≤ 121 ∧ BuiltIs w1.heap.size w1.heap.size L wr ∧ Below w1.heap.size w1 wr) (fun i _ => n - (intOf i).toNat)
    case atStart => exact ⟨0, [], by omega, rfl, rfl, by simp, Lib.IsBuilderF.of (Lib.fresh_isBuilder 42 5 w1), below_a1 _ _⟩
    case round =>
      obtain ⟨k, L, hk, rfl, hL, hLn, hB, hbw⟩ := hrel
      replace hL := Lib.hid hL
      have hwz := Lib.hid hbw.size
      by_cases hlt : k < n
      · obtain ⟨b, off, x, rfl, hb, hx, c0⟩ := int_at (hS.below hbw) hlt
        have hx0 := hrng.out x (List.mem_of_getElem? hx.out)
        have hLx := hfit.out k x hx.out
        rw [show List.foldl rstep [] (ps.take k) = L from hL.out.symm] at hLx
        have hnxt : Hid (L ++ List.replicate (x.toNat - L.length) 46 ++ [84] = rackL (ps.take (k + 1))) := Lib.hid (by rw [rackL_take hx.out, ← hL.out]; rfl)
        have hk0 : (0 : Int) ≤ (k : Int) := Int.natCast_nonneg _
        have hk1 : (k : Int) < (n : Int) := by omega
        obtain ⟨m, hm⟩ : ∃ m : Nat, x - (L.length : Int) = (m : Int) ∧ x.toNat - L.length = m := ⟨x.toNat - L.length, by omega, rfl⟩
        rw [hm.2] at hnxt
        have hw0 : IntKind.i64.wrap (x - (L.length : Int)) = (m : Int) := by rw [hm.1]; exact IntWalk.i64_in _ (by omega)
        have hm12 : m ≤ 120 := by omega
        have hLm : L.length + m ≤ 120 := by have := hm.2; omega
        have hlen := Lib.hid (Try.Builder_Len_f w1.heap.size w1.heap.size _ wr hB)
        rw [Lib.byteCells_length] at hlen
        have hrep := Lib.hid (fun W => Try.strings_Repeat ⟨#[46]⟩ m W (by omega) (by simp only [show (⟨#[46]⟩ : ByteArray).size = 1 from rfl]; omega))
        rw [show (⟨#[46]⟩ : ByteArray).data.toList = [46] from rfl, repeat_one8] at hrep
        have hB0 := Lib.hid hB
        clear hB hm hLx hx0
        go_wp2_with fail
        refine hlen.out.mono ?_
        rintro e w2 ⟨rfl, rfl⟩
        go_wp2_with fail
        refine (hrep.out _).mono ?_
        rintro e w2 ⟨rfl, hb2⟩
        have hwr := Lib.hid (write_string w1.heap.size w1.heap.size L ⟨(List.replicate m 46).toArray⟩ w2 (built8_below hB0.out hb2) (by
          have : (⟨(List.replicate m 46).toArray⟩ : ByteArray).size = m := by simp [ByteArray.size]
          omega) (Nat.le_trans hwz.out hb2.size))
        go_wp2_with fail
        refine hwr.out.mono ?_
        rintro e w3 ⟨rfl, hB3, hb3, _⟩
        have hwb := Lib.hid (write_byte8 w1.heap.size w1.heap.size 84 _ w3 hB3 (by omega) (by simp; omega) (Nat.le_trans (Nat.le_trans hwz.out hb2.size) hb3.size))
        clear hB3
        go_wp2_with fail
        refine hwb.out.mono ?_
        rintro e w4 ⟨rfl, hB4, hb4⟩
        replace hB4 := Lib.hid hB4
        have hbel := Lib.hid (((below_step8 hbw hb2 hwz.out).trans hb3).trans hb4)
        clear hb3 hb4 hb2
        go_wp2
        go_roundw
        case rel => exact ⟨k + 1, _, by omega, by go_num, hnxt.out, by simp; omega, hB4.out, hbel.out⟩
        case measure => simp [intOf]; omega
      · obtain rfl : k = n := by omega
        have hall : Hid (L = rackL ps) := Lib.hid (by rw [hL.out, List.take_of_length_le (by rw [hl.out]; omega)])
        have hst := Lib.hid (Try.Builder_String_any_f w1.heap.size w1.heap.size _ wr hB hbw.size)
        go_wp2_with fail
        refine hst.out.mono ?_
        rintro e w2 ⟨rfl, _, hb2⟩
        go_wp2
        go_ret
        exact ⟨by rw [hres.out, ← hall.out]; rfl, hb1.out.step (hbw.trans hb2)⟩
theorem rt_impl (A : Option Addr) (n c : Nat) (ps : List Int) (w : World) (h : Ints w A n ps) (hn : n ≤ 1048576) (hx : ∀ x ∈ ps, intGood x) :
    Calls Try.prog 15 #[.slice A n c] w fun e w' => e = .returned (.string (rackTx ps)) ∧ Below w.heap.size w w' := rt_implV A n c ps rfl w h hn
end Go.Proofs.Ytlmjoekiflnjgaa
