/- Boards: the program's keys by letters, and the strokes of a text. -/
import Derived.Test.YtmnafnjhioeicaaFin8
import Derived.Test.YtmnafnjhioeicaaMapOps
import Derived.StillTailTactics
import Derived.OwnWalk
namespace Go.Proofs.Ytmnafnjhioeicaa
open Go.RowKit Go.ChangeMaps Go.MapKept Go.ChangeShapes Go.WideShapes Go.Deep
set_option linter.unusedVariables false
set_option linter.unusedSimpArgs false

theorem valOf_app {κ : Type} [DecidableEq κ] (k : κ) : ∀ (a b : List (κ × Value)), valOf k (a ++ b) = (valOf k a).or (valOf k b)
  | [], b => by simp [valOf]
  | x :: a, b => by
    simp only [List.cons_append, valOf]
    by_cases h : k = x.1
    · simp [h]
    · simp [h, valOf_app k a b]
/-- The entries of the first k letters of a layout. -/
def letL (ps : List PlaceD) (L : List UInt8) (k : Nat) : List (UInt8 × Value) := (List.range k).map fun i => (L.getD i 0, keyV ps i)
theorem letL_next (ps : List PlaceD) (L : List UInt8) (k : Nat) : letL ps L (k + 1) = letL ps L k ++ [(L.getD k 0, keyV ps k)] := by simp [letL, List.range_succ]
theorem letL_none {ps : List PlaceD} {L : List UInt8} {c : UInt8} : ∀ {k : Nat}, (∀ i, i < k → L.getD i 0 ≠ c) → valOf c (letL ps L k) = none
  | 0, _ => rfl
  | k + 1, h => by
    rw [letL_next, valOf_app, letL_none fun i hi => h i (by omega)]
    simp only [valOf]
    rw [if_neg (fun e => h k (by omega) e.symm)]
    rfl
theorem letL_some {ps : List PlaceD} {L : List UInt8} {c : UInt8} {i : Nat} (hi : L.getD i 0 = c) (hb : ∀ j, j < i → L.getD j 0 ≠ c) : ∀ {k : Nat}, i < k → valOf c (letL ps L k) = some (keyV ps i)
  | 0, h => by omega
  | k + 1, h => by
    rw [letL_next, valOf_app]
    by_cases hk : i < k
    · rw [letL_some hi hb hk]
      rfl
    · obtain rfl : i = k := by omega
      rw [letL_none hb]
      simp only [valOf]
      rw [if_pos hi.symm]
      rfl
theorem letL_val {ps : List PlaceD} {s : ByteArray} (c : UInt8) : valOf c (letL ps s.data.toList s.size) = if hasL s c = true then some (keyV ps (ixL s c)) else none := by
  unfold hasL ixL
  have hlen : s.data.toList.length = s.size := rfl
  by_cases h0 : Lib.indexByte s.data.toList c = -1
  · rw [h0, if_neg (by decide)]
    exact letL_none fun i hi he => Lib.indexByte_none h0 i (by rw [List.getElem?_eq_getElem (by omega)]; rw [List.getD, List.getElem?_eq_getElem (by omega)] at he; exact congrArg some he)
  · have hge := Lib.indexByte_ge s.data.toList c
    obtain ⟨o, ho⟩ : ∃ o : Nat, Lib.indexByte s.data.toList c = o := ⟨(Lib.indexByte s.data.toList c).toNat, by omega⟩
    obtain ⟨h1, h2⟩ := Lib.indexByte_some ho
    have hlt := idx_lt ho
    rw [ho, if_pos (by simp)]
    refine letL_some (getD_of' h1) (fun j hj he => h2 j hj ?_) (by omega)
    rw [List.getElem?_eq_getElem (by omega)]
    rw [List.getD, List.getElem?_eq_getElem (by omega)] at he
    exact congrArg some he
theorem letL_new {ps : List PlaceD} {s : ByteArray} {k : Nat} (hk : k < s.size) (hd : distB s.data.toList = true) : valOf (s[k]'hk) (letL ps s.data.toList k) = none := by
  have h0 := distB_at hd (i := k) hk
  have h1 := byte_of hk
  refine letL_none fun i hi he => ?_
  have hlen : s.data.toList.length = s.size := rfl
  have h2 : s.data.toList[i]? = some (s[k]'hk) := by
    rw [List.getElem?_eq_getElem (by omega)]
    rw [List.getD, List.getElem?_eq_getElem (by omega)] at he
    exact congrArg some he
  rw [dupAt_yes h1 h2 hi] at h0
  cases h0
theorem zero_bkey (w : World) : (zeroValue 61).run Try.prog w = .ok (.agg #[.int .i64 0, .int .i64 0, .int .i64 0, .int .i64 0]) w := by kernel_rfl
theorem byteKey7 : KeyLaw Try.prog 5 byteV := byteKey Try.underlying5

/-- The code of a board and a layout. -/
def layCode (ps : List PlaceD) (s : ByteArray) : Int := if boardOk ps = true then (if layB ps.length s = true then 0 else 2) else 1
def KlOut (ps : List PlaceD) (s : ByteArray) (w : World) (e : Ending) (w' : World) : Prop :=
  (layCode ps s = 0 ∧ ∃ M, e = .returned (.tuple #[.map (some M), .int .i64 0]) ∧ w.heap.size ≤ M ∧ MapIs byteV w' M (letL ps s.data.toList s.size) ∧ Below w.heap.size w w') ∨
  (layCode ps s ≠ 0 ∧ e = .returned (.tuple #[.map none, .int .i64 (layCode ps s)]) ∧ Below w.heap.size w w')

set_option maxRecDepth 100000 in
set_option maxHeartbeats 3200000 in
theorem kl_impl (A : Option Addr) (n c : Nat) (ps : List PlaceD) (s : ByteArray) (w : World) (h : Places w A n ps) (hn : n ≤ 1048576) (hs : s.size ≤ 1048576) :
    Calls Try.prog 63 #[.slice A n c, .string s] w (KlOut ps s w) := by
  have hl := h.1
  cases h1 : boardOk ps with
  | false =>
    have hr : Hid (layCode ps s = 1) := Lib.hid (by rw [layCode, h1]; rfl)
    have hq := Lib.hid (vb_any A n c ps w h hn h1)
    clear h1 hl
    go_enter Try.func63, Try.ntmps63
    go_wp2_with fail
    refine hq.out.mono ?_
    rintro e w1 ⟨rfl, hb1⟩
    go_wp2
    go_ret2
    exact .inr ⟨by rw [hr.out]; decide, by rw [hr.out]; rfl, hb1⟩
  | true =>
    have hr0 : layCode ps s = if layB n s = true then 0 else 2 := by rw [layCode, if_pos h1, hl]
    have hq := Lib.hid (vb_any A n c ps w h hn h1)
    have hbd := Lib.hid h1
    by_cases hsn : s.size = n
    · have g0 : ((s.size : Int) == (n : Int)) = true := beq_iff_eq.2 (by omega)
      have g0' : ((s.size : Int) != (n : Int)) = false := by simp only [bne, g0]; rfl
      cases h3 : (decide ((s.size : Int) ≤ 6) && bytesIn 32 126 s) with
      | false =>
        have hr : Hid (layCode ps s = 2) := Lib.hid (by rw [hr0, layB, h3]; simp)
        have hb := Lib.hid (fun W => hasBytes_any s 32 126 6 false h3 W (by unfold maxLen; omega))
        clear h3 hr0 hl h1 hsn
        go_enter Try.func63, Try.ntmps63
        go_wp2_with fail
        refine hq.out.mono ?_
        rintro e w1 ⟨rfl, hb1⟩
        go_wp2_with fail
        refine (hb.out _).mono ?_
        rintro e w2 ⟨rfl, rfl⟩
        go_wp2
        go_ret2
        exact .inr ⟨by rw [hr.out]; decide, by rw [hr.out]; rfl, hb1⟩
      | true =>
        have hb := Lib.hid (fun W => hasBytes_any s 32 126 6 true h3 W (by unfold maxLen; omega))
        cases h4 : distB s.data.toList with
        | false =>
          have hr : Hid (layCode ps s = 2) := Lib.hid (by rw [hr0, layB, h4]; simp)
          have ht := Lib.hid (fun W => twice_impl s h4 W hs)
          clear h3 hr0 hl h1 hsn h4
          go_enter Try.func63, Try.ntmps63
          go_wp2_with fail
          refine hq.out.mono ?_
          rintro e w1 ⟨rfl, hb1⟩
          go_wp2_with fail
          refine (hb.out _).mono ?_
          rintro e w2 ⟨rfl, rfl⟩
          go_wp2_with fail
          refine (ht.out _).mono ?_
          rintro e w2 ⟨rfl, rfl⟩
          go_wp2
          go_ret2
          exact .inr ⟨by rw [hr.out]; decide, by rw [hr.out]; rfl, hb1⟩
        | true =>
          have hr : Hid (layCode ps s = 0) := Lib.hid (by rw [hr0, if_pos]; rw [layB, decide_eq_true hsn, h3, h4]; rfl)
          have ht := Lib.hid (fun W => twice_impl s h4 W hs)
          have hnew := Lib.hid (fun k (hk : k < s.size) => letL_new (ps := ps) hk h4)
          have hn6 : n ≤ 6 := by have := (boardOk_iff.1 h1).2.2; rw [hl] at this; exact this
          have hkeys := Lib.hid (fun W (hW : Places W A n ps) => keys_impl A n c ps W hW hn6)
          have hmm := @run_makeMap Try.prog
          clear h3 hr0 hl h1 h4
          go_enter Try.func63, Try.ntmps63
          go_wp2_with fail
          refine hq.out.mono ?_
          rintro e w1 ⟨rfl, hb1⟩
          have hP1 := h.below hb1
          replace hb1 := Lib.hid hb1
          clear h hq
          go_wp2_with fail
          refine (hb.out _).mono ?_
          rintro e w2 ⟨rfl, rfl⟩
          rename World => w1
          go_wp2_with fail
          refine (ht.out _).mono ?_
          rintro e w2 ⟨rfl, rfl⟩
          rename World => w1
          have hM1 := MapIs.made (enc := byteV) w1
          have hbm := Lib.hid (below_a1 w1 (.map #[] 0))
          go_wp2_with fail
          refine (hkeys.out _ (hP1.below hbm.out)).mono ?_
          rintro e w3 ⟨A', c', rfl, hO, hb3⟩
          have hM3 := hM1.below hb3 hM1.lt
          have hOK := hO.srow
          have how := Lib.hid hO.own
          have hb13 := Lib.hid (hb1.out.step (hbm.out.step hb3))
          have hwM := hb1.out.size
          have hz1 := hbm.out.size
          have hz3 := hb3.size
          clear hO hb3 hkeys hM1 hb ht hP1
          simp only [World.size_alloc] at how hz1 hz3
          generalize hMM : w1.heap.size = M at *
          replace hMM := Lib.hid hMM
          go_wp2
          go_loopw [30] (fun i wr => ∃ k : Nat, k ≤ n ∧ i = .int .i64 k ∧ w3.grownBy wr (some M) ∧ MapIs byteV wr M (letL ps s.data.toList k)) (fun i _ => n - (intOf i).toNat)
          case atStart => exact ⟨0, by omega, rfl, grown_refl _ _, hM3⟩
          case round =>
            obtain ⟨k, hk, rfl, hgr, hM⟩ := hrel
            by_cases hlt : k < n
            · have hOr := SRow.kept (B := some ⟨M, 0, none⟩) hOK hgr (fun p q hp hq => by cases hq; have := how.out p hp; simp only; omega)
              obtain ⟨b, off, x, rfl, hb, hx, c0, c1, c2, c3⟩ := bkey_at hOr hlt
              have hxk : x = k := by have := hx.out; rw [List.getElem?_range hlt] at this; exact (Option.some.inj this).symm
              subst hxk
              have hks : x < s.size := by omega
              have hno := Lib.hid (hnew.out x hks)
              have hby := byte_of hks
              have hnx : Hid (letL ps s.data.toList (x + 1) = letL ps s.data.toList x ++ [(s[x]'hks, keyV ps x)]) := Lib.hid (by rw [letL_next, getD_of' hby])
              have hk0 : (0 : Int) ≤ (x : Int) := Int.natCast_nonneg _
              have hk1 : (x : Int) < (s.size : Int) := by omega
              have hMl := hM.lt
              clear hby hx hOr
              unfold keyV at hnx
              generalize (plc ps x).finger = f at *
              generalize (plc ps x).row = r at *
              generalize (plc ps x).effort = e at *
              go_wp2_with fail
              have hr1 := hM.below (below_a1 wr (.cells #[.int .i64 f, .int .i64 r, .int .i64 e, .int .i64 (x : Int)] 61)) hMl
              have hg1 := Lib.hid (grown_trans hgr (grown_of (below_a1 wr (.cells #[.int .i64 f, .int .i64 r, .int .i64 e, .int .i64 (x : Int)] 61)) (some M)))
              have k0 : (wr.alloc (.cells #[.int .i64 f, .int .i64 r, .int .i64 e, .int .i64 (x : Int)] 61)).cell? ⟨wr.heap.size, 0, none⟩ = some (.int .i64 f) := cell_new rfl rfl
              have k1 : (wr.alloc (.cells #[.int .i64 f, .int .i64 r, .int .i64 e, .int .i64 (x : Int)] 61)).cell? ⟨wr.heap.size, 1, none⟩ = some (.int .i64 r) := cell_new rfl rfl
              have k2 : (wr.alloc (.cells #[.int .i64 f, .int .i64 r, .int .i64 e, .int .i64 (x : Int)] 61)).cell? ⟨wr.heap.size, 2, none⟩ = some (.int .i64 e) := cell_new rfl rfl
              have k3 : (wr.alloc (.cells #[.int .i64 f, .int .i64 r, .int .i64 e, .int .i64 (x : Int)] 61)).cell? ⟨wr.heap.size, 3, none⟩ = some (.int .i64 (x : Int)) := cell_new rfl rfl
              clear hgr hM c0 c1 c2 c3
              generalize hwn : wr.alloc (.cells #[.int .i64 f, .int .i64 r, .int .i64 e, .int .i64 (x : Int)] 61) = wn at *
              clear hwn
              go_still_tail 5, (by kernel_rfl)
              have hmd : MapIs byteV wn.drew M (letL ps s.data.toList x) := hr1
              change wpList _ _ _ _ _ wn.drew
              refine wpList_put_is rfl _ _ _ _ 5 61 rfl byteKey7 Try.underlying77 rfl hmd (s[x]'hks) (.agg #[.int .i64 f, .int .i64 r, .int .i64 e, .int .i64 (x : Int)]) rfl rfl hno.out ?_
              intro w4 hm4 hg4
              replace hg4 : wn.grownBy w4 (some M) := ⟨hg4.os, hg4.tape, hg4.output, hg4.size, hg4.block⟩
              have hfin : Hid (w3.grownBy w4 (some M) ∧ MapIs byteV w4 M (letL ps s.data.toList (x + 1))) := Lib.hid ⟨grown_trans hg1.out hg4, by rw [hnx.out]; exact hm4⟩
              clear hm4 hg4 hmd hr1
              go_wp2
              go_roundw
              case rel => exact ⟨x + 1, by omega, by go_num, hfin.out.1, hfin.out.2⟩
              case measure => simp [intOf]; omega
            · obtain rfl : k = n := by omega
              have hfin : Hid (MapIs byteV wr M (letL ps s.data.toList s.size)) := Lib.hid (by rw [hsn]; exact hM)
              have hbf : Hid (Below w.heap.size w wr) := Lib.hid (hb13.out.grown hgr hb13.out.size (fun j hj => by cases hj; exact hwM))
              clear hM hgr
              go_wp2
              go_ret2
              exact .inl ⟨hr.out, M, rfl, hwM, hfin.out, hbf.out⟩
    · have g0 : ((s.size : Int) == (n : Int)) = false := beq_eq_false_iff_ne.2 (by omega)
      have g0' : ((s.size : Int) != (n : Int)) = true := by simp only [bne, g0]; rfl
      have hr : Hid (layCode ps s = 2) := Lib.hid (by rw [hr0, layB, decide_eq_false hsn]; simp)
      clear hr0 hl h1 hsn
      go_enter Try.func63, Try.ntmps63
      go_wp2_with fail
      refine hq.out.mono ?_
      rintro e w1 ⟨rfl, hb1⟩
      go_wp2
      go_ret2
      exact .inr ⟨by rw [hr.out]; decide, by rw [hr.out]; rfl, hb1⟩
end Go.Proofs.Ytmnafnjhioeicaa
