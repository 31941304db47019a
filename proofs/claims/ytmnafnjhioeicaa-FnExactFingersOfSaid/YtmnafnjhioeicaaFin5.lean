/- Boards: the model's functions: fingers, the dearest stroke. -/
import Derived.Test.YtmnafnjhioeicaaFin4
import Derived.Deep.QuietTactic
import Derived.BigQuiet
namespace Go.Proofs.Ytmnafnjhioeicaa
open Go.RowKit Go.ChangeShapes Go.WideShapes Go.Deep
set_option linter.unusedVariables false
set_option linter.unusedSimpArgs false

def InOut (r : List Int × Int) (w : World) (e : Ending) (w' : World) : Prop := ∃ A n c, e = .returned (.tuple #[.slice A n c, .int .i64 r.2]) ∧ n ≤ 1048576 ∧ OInts w' w.heap.size A n r.1 ∧ Below w.heap.size w w'
theorem InOut.bad {r : List Int × Int} {w w' : World} {code : Int} (hr : r = ([], code)) (hb : Below w.heap.size w w') : InOut r w (.returned (.tuple #[.slice none 0 0, .int .i64 code])) w' := by
  subst hr
  exact ⟨none, 0, 0, rfl, by omega, ⟨rfl, .inl ⟨rfl, rfl⟩⟩, hb⟩
theorem InOut.good {r : List Int × Int} {w w1 w' : World} {g n c : Nat} {l : List Int} (hr : r = (l, 0)) (hn : n ≤ 1048576) (h : OInts w' w1.heap.size (some ⟨g, 0, none⟩) n l) (h1 : w.heap.size ≤ w1.heap.size) (hb : Below w.heap.size w w') : InOut r w (.returned (.tuple #[.slice (some ⟨g, 0, none⟩) n c, .int .i64 0])) w' := by
  subst hr
  exact ⟨_, n, c, rfl, hn, h.mono h1, hb⟩
theorem OInts.put {w : World} {base g n i : Nat} {ps : List Int} (x : Int) (h : OInts w base (some ⟨g, 0, none⟩) n ps) (hi : i < n) : OInts (w.setCell ⟨g, i, none⟩ (.int .i64 x)) base (some ⟨g, 0, none⟩) n (ps.set i x) := by
  rcases h with ⟨hl, ⟨h0, _⟩ | ⟨g', m, f, h1, hb, hr, hm, hf⟩⟩
  · cases h0
  · cases h1
    refine ⟨by simp [hl], .inr ⟨g, m, _, rfl, hb, hr.set i _, hm, fun j y hy q u hu => ?_⟩⟩
    have hj : j < n := by have := (List.getElem?_eq_some_iff.1 hy).1; simpa [hl] using this
    match q, hu with
    | 0, hu =>
      simp [intC] at hu
      subst hu
      refine ⟨by omega, ?_⟩
      by_cases hij : i = j
      · subst hij
        rw [List.getElem?_set_self (by omega)] at hy
        cases hy
        simp
      · rw [List.getElem?_set_ne hij] at hy
        have := (hf j y hy 0 _ rfl).2
        simp only [Nat.mul_one, Nat.add_zero] at this ⊢
        rw [if_neg (fun h => hij h.symm)]
        exact this
    | q + 1, hu => simp [intC] at hu
theorem OInts.parts {w : World} {base g n i : Nat} {ps : List Int} (h : OInts w base (some ⟨g, 0, none⟩) n ps) (hi : i < n) : w.cell? ⟨g, i, none⟩ = some (.int .i64 (ps.getD i 0)) ∧ w.frozen? ⟨g, i, none⟩ = false ∧ g < w.heap.size ∧ base ≤ g := by
  rcases h with ⟨hl, ⟨h0, _⟩ | ⟨g', m, f, h1, hb, hr, hm, hf⟩⟩
  · cases h0
  · cases h1
    have hx : ps[i]? = some ps[i] := List.getElem?_eq_getElem (by omega)
    obtain ⟨h2, h3⟩ := hf i _ hx 0 _ rfl
    rw [Nat.mul_one, Nat.add_zero] at h2 h3
    have h4 := hr.cell (i := i) h2
    rw [h3] at h4
    exact ⟨by rw [getD_of' hx]; exact h4, hr.frozen i, hr.lt, hb⟩
theorem OInts.zeros (w : World) (n : Nat) : OInts (w.alloc (.cells (madeCells #[.int .i64 0] n) 2)) w.heap.size (some ⟨w.heap.size, 0, none⟩) n (List.replicate n 0) := by
  have hr := World.rowIs_made w (.int .i64 0) n 2
  refine ⟨by simp, .inr ⟨w.heap.size, n, _, rfl, Nat.le_refl _, hr, by omega, fun i x hx j u hu => ?_⟩⟩
  obtain ⟨h1, h2⟩ := List.getElem?_eq_some_iff.1 hx
  rw [List.getElem_replicate] at h2
  subst h2
  simp at h1
  match j, hu with
  | 0, hu => cases hu; exact ⟨by omega, rfl⟩
  | j + 1, hu => simp [intC] at hu

set_option maxHeartbeats 1600000 in
theorem fo_spec (A : Option Addr) (n c : Nat) (ps : List PlaceD) (s t : ByteArray) (w : World) (h : Places w A n ps) (hn : n ≤ 1048576) (hg : ∀ x ∈ ps, x.good) (hs : s.size ≤ 1048576) (ht : t.size ≤ 1048576) :
    Calls Try.prog 22 #[.slice A n c, .string s, .string t] w (InOut (fingR ps s t) w) := by
  generalize hr : fingR ps s t = r
  replace hr := Lib.hid hr.symm
  have hq := Lib.hid (code7_spec A n c ps s t w h hn hs ht rfl)
  clear hg
  by_cases h0 : finCode ps s t = 0
  · have hres : Hid (r = (fingTo ps s t t.size, 0)) := Lib.hid (by rw [hr.out, fingR, if_pos h0])
    obtain ⟨k1, k2, k3, k4⟩ := finCode_ok h0
    have hsn : s.size = n := by rw [← h.1]; exact (layB_iff.1 k3).1
    replace k2 := Lib.hid (fun i (hi : i < t.size) => textB_at k2 hi)
    replace k1 := Lib.hid (fun i => placeOk_iff.1 (plc_ok k1 i))
    rw [h0] at hq
    clear h0 hr k3
    have hrg := Lib.hid (fingTo_range ps s t)
    obtain ⟨i0, hi, hz0, hz1, hz2⟩ := info_parts Try.infoI64
    have hmk := fun W => run_make_many (P := Try.prog) 36 2 i0 _ Try.underlying36 hi hz0 .i64 .i64 8 (by rw [hz2]; omega) (by omega) W
    rw [hz1] at hmk
    simp only [show ((8 : Nat) : Int) = 8 from rfl] at hmk
    go_enter Try.func22, Try.ntmps22
    go_wp2_with fail
    refine hq.out.mono ?_
    rintro e w1 ⟨rfl, hb1⟩
    have hP1 := h.below hb1
    replace hb1 := Lib.hid hb1
    clear h hq
    go_wp2
    have hO0 := OInts.zeros w1 8
    have hmb := Lib.hid (below_a1 w1 (.cells (madeCells #[.int .i64 0] 8) 2))
    go_loopw [10] (fun i wr => ∃ k : Nat, k ≤ t.size ∧ i = .int .i64 k ∧ Below w1.heap.size w1 wr ∧ OInts wr w1.heap.size (some ⟨w1.heap.size, 0, none⟩) 8 (fingTo ps s t k)) (fun i _ => t.size - (intOf i).toNat)
    case atStart => exact ⟨0, by omega, rfl, hmb.out, hO0⟩
    case round =>
      obtain ⟨k, hk, rfl, hbr, hO⟩ := hrel
      by_cases hlt : k < t.size
      · obtain ⟨q1, q2⟩ := k2.out k hlt
        have hidx := Lib.hid (fun W => idx_spec s (t[k]'hlt) W hs)
        rw [q1] at hidx
        have hPr := hP1.below hbr
        obtain ⟨b, off, x, rfl, hb, hx, d0, d1, d2⟩ := place_at hPr (show stk s t k < n by omega)
        have hpx := plc_of hx.out
        have hfr := (k1.out (stk s t k)).1
        rw [hpx] at hfr
        obtain ⟨f, hf⟩ : ∃ f : Nat, x.finger = (f : Int) := ⟨x.finger.toNat, by omega⟩
        have hf8 : f < 8 := by omega
        rw [hf] at d0
        obtain ⟨p0, p1, p2, p3⟩ := hO.parts hf8
        have hgr := hrg.out k f
        have hnx : Hid (fingTo ps s t (k + 1) = (fingTo ps s t k).set f ((fingTo ps s t k).getD f 0 + 1)) := Lib.hid (by
          show (fingTo ps s t k).set _ _ = _
          rw [hpx, hf, Int.toNat_natCast])
        have hO' := Lib.hid (hO.put ((fingTo ps s t k).getD f 0 + 1) hf8)
        have hb' := Lib.hid (hbr.setCell (p := ⟨w1.heap.size, f, none⟩) (Nat.le_refl _) (.int .i64 ((fingTo ps s t k).getD f 0 + 1)))
        have e0 : (0 : Int) ≤ (stk s t k : Int) := Int.natCast_nonneg _
        have e1 : (stk s t k : Int) < (n : Int) := by omega
        have e2 : (0 : Int) ≤ (f : Int) := Int.natCast_nonneg _
        have e3 : (f : Int) < 8 := by omega
        have s1 : IntKind.i64.wrap ((fingTo ps s t k).getD f 0 + 1) = (fingTo ps s t k).getD f 0 + 1 := IntWalk.i64_in _ (by omega)
        generalize (fingTo ps s t k).getD f 0 = v at *
        clear hpx q1 hf hfr hO
        generalize stk s t k = q at *
        go_wp2_with fail
        refine (hidx.out _).mono ?_
        rintro e w2 ⟨rfl, rfl⟩
        go_wp2
        go_roundw
        case rel => exact ⟨k + 1, by omega, by go_num, hb'.out, by rw [hnx.out]; exact hO'.out⟩
        case measure => simp [intOf]; omega
      · obtain rfl : k = t.size := by omega
        replace hO := Lib.hid hO
        go_wp2
        go_ret2
        exact InOut.good hres.out (by omega) hO.out hb1.out.size (hb1.out.step hbr)
  · have hres : Hid (r = ([], finCode ps s t)) := Lib.hid (by rw [hr.out, fingR, if_neg h0])
    generalize finCode ps s t = code at *
    have g0 : (code == 0) = false := beq_eq_false_iff_ne.2 h0
    have g1 : (code != 0) = true := by simp [h0]
    clear h0 hr
    go_enter Try.func22, Try.ntmps22
    go_wp2_with fail
    refine hq.out.mono ?_
    rintro e w1 ⟨rfl, hb1⟩
    go_wp2
    go_ret2
    exact InOut.bad hres.out hb1

set_option maxHeartbeats 1600000 in
theorem dp_spec (A : Option Addr) (n c : Nat) (ps : List PlaceD) (s t : ByteArray) (w : World) (h : Places w A n ps) (hn : n ≤ 1048576) (hg : ∀ x ∈ ps, x.good) (hs : s.size ≤ 1048576) (ht : t.size ≤ 1048576) :
    Calls Try.prog 30 #[.slice A n c, .string s, .string t] w fun e w' => e = .returned (.tuple #[.int .i64 (dearR ps s t).1, .int .i64 (dearR ps s t).2]) ∧ Below w.heap.size w w' := by
  generalize hr : dearR ps s t = r
  replace hr := Lib.hid hr.symm
  have hq := Lib.hid (code7_spec A n c ps s t w h hn hs ht rfl)
  clear hg
  by_cases h0 : finCode ps s t = 0
  · by_cases h2 : t.size < 2
    · have hres : Hid (r = (0, 3)) := Lib.hid (by rw [hr.out, dearR, if_pos h0, if_pos h2])
      have g0 : decide ((t.size : Int) < 2) = true := decide_eq_true (by omega)
      rw [h0] at hq
      clear h0 hr h2
      go_enter Try.func30, Try.ntmps30
      go_wp2_with fail
      refine hq.out.mono ?_
      rintro e w1 ⟨rfl, hb1⟩
      go_wp2
      go_ret2
      exact ⟨ret_2 hres.out, hb1⟩
    · have hres : Hid (r = ((bestTo (costN ps s t) t.size : Int), 0)) := Lib.hid (by rw [hr.out, dearR, if_pos h0, if_neg h2])
      have g0 : decide ((t.size : Int) < 2) = false := decide_eq_false (by omega)
      have hcs := Lib.hid (fun W (hW : Places W A n ps) => costs_spec A n c ps s t W hW hs h0)
      have hbl := Lib.hid (fun k (hk : 2 ≤ k) => bestTo_lt (costN ps s t) k hk)
      have hbn := Lib.hid (fun k (hk : 2 ≤ k) => bestTo_next (f := costN ps s t) hk)
      rw [h0] at hq
      clear h0 hr
      go_enter Try.func30, Try.ntmps30
      go_wp2_with fail
      refine hq.out.mono ?_
      rintro e w1 ⟨rfl, hb1⟩
      go_wp2_with fail
      refine (hcs.out _ (h.below hb1)).mono ?_
      rintro e w2 ⟨A', c', rfl, hO, hb2⟩
      have hI := hO.srow
      have hbw := Lib.hid (hb1.step hb2)
      clear hO hb2 hq hcs h hb1
      go_wp2
      go_loopw [10, 11] (fun v i wr => ∃ k : Nat, 2 ≤ k ∧ k ≤ t.size ∧ i = .int .i64 k ∧ Below w2.heap.size w2 wr ∧ v = .int .i64 (bestTo (costN ps s t) k)) (fun _ i _ => t.size + 1 - (intOf i).toNat)
      case atStart => exact ⟨2, by omega, by omega, rfl, Below.refl _ _, rfl⟩
      case round =>
        obtain ⟨k, hk2, hk, rfl, hbr, rfl⟩ := hrel
        obtain ⟨b1, b2⟩ := hbl.out k hk2
        have hnx := Lib.hid (hbn.out k hk2)
        by_cases hlt : k < t.size
        · have hIr := hI.below hbr
          have hx := Lib.hid (costL_at ps s t hlt)
          have hy := Lib.hid (costL_at ps s t (show bestTo (costN ps s t) k < t.size by omega))
          obtain ⟨b, off, x, rfl, hb, hx', c0⟩ := int_at hIr hlt
          obtain ⟨b', off', y, hBe, hb', hy', d0⟩ := int_at hIr (show bestTo (costN ps s t) k < t.size by omega)
          cases hBe
          have ex : x = costN ps s t k := by have := hx.out; rw [hx'.out] at this; exact Option.some.inj this
          have ey : y = costN ps s t (bestTo (costN ps s t) k) := by have := hy.out; rw [hy'.out] at this; exact Option.some.inj this
          rw [← ex, ← ey] at hnx
          have r0 : (0 : Int) ≤ (k : Int) := by omega
          have r1 : (k : Int) < (t.size : Int) := by omega
          have e0 : (0 : Int) ≤ (bestTo (costN ps s t) k : Int) := Int.natCast_nonneg _
          have e1 : (bestTo (costN ps s t) k : Int) < (t.size : Int) := by omega
          clear ex ey hx hy hx' hy'
          by_cases hyx : y < x
          · have g2 : decide (y < x) = true := decide_eq_true hyx
            rw [if_pos hyx] at hnx
            generalize bestTo (costN ps s t) k = q at *
            clear hyx
            go_wp2_with fail
            go_quiet (fail)
            go_wp2
            go_roundw
            case rel => exact ⟨k + 1, by omega, by omega, by go_num, below_drewN hbr _, by rw [hnx.out]⟩
            case measure => simp [intOf]; omega
          · have g2 : decide (y < x) = false := decide_eq_false hyx
            rw [if_neg hyx] at hnx
            generalize bestTo (costN ps s t) k = q at *
            clear hyx
            go_wp2_with fail
            go_quiet (fail)
            go_wp2
            go_roundw
            case rel => exact ⟨k + 1, by omega, by omega, by go_num, below_drewN hbr _, by rw [hnx.out]⟩
            case measure => simp [intOf]; omega
        · obtain rfl : k = t.size := by omega
          go_wp2
          go_ret2
          exact ⟨ret_2 hres.out, hbw.out.step hbr⟩
  · have hres : Hid (r = (0, finCode ps s t)) := Lib.hid (by rw [hr.out, dearR, if_neg h0])
    generalize finCode ps s t = code at *
    have g0 : (code == 0) = false := beq_eq_false_iff_ne.2 h0
    have g1 : (code != 0) = true := by simp [h0]
    clear h0 hr
    go_enter Try.func30, Try.ntmps30
    go_wp2_with fail
    refine hq.out.mono ?_
    rintro e w1 ⟨rfl, hb1⟩
    go_wp2
    go_ret2
    exact ⟨ret_2 hres.out, hb1⟩
end Go.Proofs.Ytmnafnjhioeicaa
