/- Moves of the carriage: the model's least numbers of moves. -/
import Derived.Test.YtcmmcgjpaabnoaaTm1
import Derived.Test.YtcmmcgjpaabnoaaOIn
namespace Go.Proofs.Ytcmmcgjpaabnoaa
open Go.RowKit Go.ChangeShapes Go.WideShapes Go.Deep
set_option linter.unusedVariables false
set_option linter.unusedSimpArgs false

/-- What a slice of int64 holds in a world. -/
def readJ (w : World) : Value → List Int
  | .slice (some a) n _ => (List.range n).map fun i => match w.cell? ⟨a.block, a.off + i, none⟩ with | some (.int _ x) => x | _ => 0
  | _ => []
theorem readJ_of {w : World} {g n c : Nat} {xs : List Int} (h : Ints w (some ⟨g, 0, none⟩) n xs) : readJ w (.slice (some ⟨g, 0, none⟩) n c) = xs := by
  refine List.ext_getElem? fun i => ?_
  by_cases hi : i < n
  · obtain ⟨_, _, x, hA, _, hx, hc⟩ := int_at h hi
    cases hA
    rw [hx.out]
    rw [Nat.zero_add] at hc
    simp [readJ, hi, hc]
  · rw [List.getElem?_eq_none (by simp [readJ]; omega), List.getElem?_eq_none (by rw [h.1]; omega)]
theorem sum_set : ∀ (l : List Int) (i : Nat) (x : Int), i < l.length → (l.set i x).sum = l.sum - l.getD i 0 + x
  | [], i, x, h => absurd h (by simp)
  | a :: l, 0, x, h => by simp; omega
  | a :: l, i + 1, x, h => by
    have := sum_set l i x (by simpa using h)
    simp only [List.set_cons_succ, List.sum_cons, List.getD_cons_succ]
    omega
theorem sum_pos : ∀ (l : List Int), (∀ x ∈ l, 0 ≤ x) → 0 ≤ l.sum
  | [], _ => by simp
  | a :: l, h => by
    have := sum_pos l (fun x hx => h x (by simp [hx]))
    have := h a (by simp)
    simp only [List.sum_cons]
    omega
/-- What holds of distances that are not the least ones yet. -/
structure FarI (ps : List Int) (to : Nat) (L : List Int) : Prop where
  len : L.length = 31
  zero : L.getD to 0 = 0
  rng : ∀ a : Nat, a ≤ 30 → 0 ≤ L.getD a 0 ∧ L.getD a 0 ≤ 31
  back : ∀ a : Nat, a ≤ 30 → a ≠ to → L.getD a 0 < 31 → ∃ k, k < 3 ∧ ∃ n : Nat, nextP ps (a : Int) (mvB k) = (n : Int) ∧ L.getD n 0 + 1 ≤ L.getD a 0
/-- A pass so far. -/
structure PassI (ps : List Int) (to : Nat) (L0 : List Int) (at' kk : Nat) (more : Bool) (L : List Int) : Prop where
  far : FarI ps to L
  le : L.sum ≤ L0.sum
  lt : more = true → L.sum < L0.sum
  fix : more = false → ∀ a k : Nat, k < 3 → (a < at' ∨ (a = at' ∧ k < kk)) → ∀ n : Nat, nextP ps (a : Int) (mvB k) = (n : Int) → L.getD a 0 ≤ L.getD n 0 + 1
theorem FarI.sum0 {ps : List Int} {to : Nat} {L : List Int} (h : FarI ps to L) : 0 ≤ L.sum := sum_pos L fun x hx => by
  obtain ⟨i, hi, rfl⟩ := List.getElem_of_mem hx
  have := (h.rng i (by have := h.len; omega)).1
  rwa [List.getD, List.getElem?_eq_getElem hi, Option.getD_some] at this
theorem FarI.start {ps : List Int} {to : Nat} (hto : to ≤ 30) : FarI ps to ((List.replicate 31 (31 : Int)).set to 0) := by
  have hg : ∀ a : Nat, a ≤ 30 → a ≠ to → ((List.replicate 31 (31 : Int)).set to 0).getD a 0 = 31 := fun a ha hne => by
    rw [set_otherI (fun e => hne e.symm), List.getD, List.getElem?_replicate_of_lt (by omega)]; rfl
  have hz : ((List.replicate 31 (31 : Int)).set to 0).getD to 0 = 0 := set_sameI (by simp; omega)
  refine ⟨by simp, hz, fun a ha => ?_, fun a ha hne hlt => ?_⟩
  · by_cases he : a = to
    · rw [he, hz]; omega
    · rw [hg a ha he]; omega
  · rw [hg a ha hne] at hlt; omega
theorem PassI.start {ps : List Int} {to : Nat} {L : List Int} (h : FarI ps to L) : PassI ps to L 0 0 false L :=
  ⟨h, Int.le_refl _, (fun e => by cases e), fun _ a k _ hk n _ => absurd hk (by omega)⟩
theorem PassI.row {ps : List Int} {to : Nat} {L0 L : List Int} {a : Nat} {more : Bool} (h : PassI ps to L0 a 3 more L) : PassI ps to L0 (a + 1) 0 more L :=
  ⟨h.far, h.le, h.lt, fun e b k hk hb n hn => h.fix e b k hk (by omega) n hn⟩
theorem PassI.skip {ps : List Int} {to : Nat} {L0 L : List Int} {a k : Nat} {more : Bool} (h : PassI ps to L0 a k more L) (hs : ∀ n : Nat, nextP ps (a : Int) (mvB k) = (n : Int) → L.getD a 0 ≤ L.getD n 0 + 1) : PassI ps to L0 a (k + 1) more L :=
  ⟨h.far, h.le, h.lt, fun e b j hj hb n hn => by
    by_cases hbk : b = a ∧ j = k
    · obtain ⟨rfl, rfl⟩ := hbk; exact hs n hn
    · exact h.fix e b j hj (by omega) n hn⟩
theorem PassI.relax {ps : List Int} {to : Nat} {L0 L : List Int} {a k n : Nat} {more : Bool} (h : PassI ps to L0 a k more L) (ha : a ≤ 30) (hk : k < 3) (hn : nextP ps (a : Int) (mvB k) = (n : Int)) (hlt : L.getD n 0 + 1 < L.getD a 0) : PassI ps to L0 a (k + 1) true (L.set a (L.getD n 0 + 1)) := by
  have hn30 := next_le hn
  have hrn := h.far.rng n hn30
  have hra := h.far.rng a ha
  have hat : a ≠ to := by intro e; rw [e, h.far.zero] at hlt; omega
  have hna : n ≠ a := by intro e; rw [e] at hlt; omega
  have hlen := h.far.len
  have hsa : (L.set a (L.getD n 0 + 1)).getD a 0 = L.getD n 0 + 1 := set_sameI (by omega)
  have hle : ∀ b : Nat, (L.set a (L.getD n 0 + 1)).getD b 0 ≤ L.getD b 0 := fun b => by
    by_cases hb : b = a
    · rw [hb, hsa]; omega
    · rw [set_otherI (fun e => hb e.symm)]; exact Int.le_refl _
  have hsum := sum_set L a (L.getD n 0 + 1) (by omega)
  have h1 := h.le
  refine ⟨⟨by rw [List.length_set]; exact hlen, by rw [set_otherI hat]; exact h.far.zero, fun b hb => ?_, fun b hb hne hl => ?_⟩, by omega, fun _ => by omega, fun e => by cases e⟩
  · by_cases hba : b = a
    · rw [hba, hsa]; omega
    · rw [set_otherI (fun e => hba e.symm)]; exact h.far.rng b hb
  · by_cases hba : b = a
    · subst hba
      exact ⟨k, hk, n, hn, by rw [hsa, set_otherI (fun e => hna e.symm)]; omega⟩
    · rw [set_otherI (fun e => hba e.symm)] at hl ⊢
      obtain ⟨j, hj, m, hm, hd⟩ := h.far.back b hb hne hl
      exact ⟨j, hj, m, hm, by have := hle m; omega⟩
theorem PassI.done {ps : List Int} {to : Nat} {L0 L : List Int} (hto : to ≤ 30) (h : PassI ps to L0 31 0 false L) : IsFar ps to (fun a => L.getD a 0) := by
  have hs : ∀ a : Nat, a ≤ 30 → ∀ k, k < 3 → ∀ n : Nat, nextP ps (a : Int) (mvB k) = (n : Int) → L.getD a 0 ≤ L.getD n 0 + 1 := fun a ha k hk n hn => h.fix rfl a k hk (Or.inl (by omega)) n hn
  refine ⟨h.far.zero, hs, fun a ha hne => ?_, fun a ha => (h.far.rng a ha).1⟩
  have h30 := far_30 (D := fun a => L.getD a 0) hto h.far.zero hs ha
  obtain ⟨k, hk, n, hn, hd⟩ := h.far.back a ha hne (by have h31 : L.getD a 0 ≤ 30 := h30; omega)
  exact ⟨k, hk, n, hn, Int.le_antisymm (hs a ha k hk n hn) hd⟩
def boolN : Value → Nat
  | .bool true => 1
  | _ => 0
set_option maxRecDepth 100000 in
set_option maxHeartbeats 6400000 in
theorem far11 (A : Option Addr) (n c : Nat) (ps : List Int) (to : Nat) (hto : to ≤ 30) (w : World) (h : Ints w A n ps) (hn : n ≤ 1048576) :
    Calls Try.prog 38 #[.slice A n c, .int .i64 (to : Int)] w fun e w' => ∃ g L, e = .returned (.slice (some ⟨g, 0, none⟩) 31 31) ∧ w.heap.size ≤ g ∧ OInts w' w.heap.size (some ⟨g, 0, none⟩) 31 L ∧ IsFar ps to (fun a => L.getD a 0) ∧ Below w.heap.size w w' := by
  obtain ⟨i0, hi, hz0, hz1, hz2⟩ := info_parts Try.infoI64
  have hmk := fun W => run_make_many (P := Try.prog) 22 2 i0 _ Try.underlying22 hi hz0 .i64 .i64 31 (by rw [hz2]; omega) (by omega) W
  rw [hz1, Nat.mul_one] at hmk
  simp only [show ((31 : Nat) : Int) = 31 from rfl] at hmk
  have hto0 : (0 : Int) ≤ (to : Int) := Int.natCast_nonneg _
  have hto1 : (to : Int) < 31 := by omega
  have hto2 : to < 31 := by omega
  have hnx0 := Lib.hid (fun (a k : Nat) (v : Int) (hv : nextP ps (a : Int) (mvB k) = v) (ha : a ≤ 30) W hW => next11 A n c ps (a : Int) (mvB k) hv ⟨by omega, by omega⟩ W hW hn)
  go_enter Try.func38, Try.ntmps38
  go_wp2
  have hO0 := Lib.hid (OInts.zerosI w 31)
  have hmb := Lib.hid (below_a1 w (.cells (madeCells #[.int .i64 0] 31) 2))
  generalize w.alloc (.cells (madeCells #[.int .i64 0] 31) 2) = w1 at *
  obtain ⟨G, hG⟩ : ∃ G, w.heap.size = G := ⟨_, rfl⟩
  have hGw := Lib.hid hG
  rw [hG] at hO0 hmb ⊢
  go_loopw [6] (fun i wr => ∃ (k : Nat) (L : List Int), k ≤ 31 ∧ i = .int .i64 k ∧ Below G w wr ∧ OInts wr G (some ⟨G, 0, none⟩) 31 L ∧ L = List.replicate k 31 ++ List.replicate (31 - k) 0) (fun i _ => 31 - (intOf i).toNat)
  case atStart => exact ⟨0, List.replicate 31 0, by omega, rfl, hmb.out, hO0.out, by simp⟩
  case round =>
    rename World => wr
    obtain ⟨k, L, hk, rfl, hbw, hO, hL⟩ := hrel
    by_cases hlt : k < 31
    · obtain ⟨c0, f0, l0, _⟩ := OInts.partsI hO hlt
      have hk0 : (0 : Int) ≤ (k : Int) := Int.natCast_nonneg _
      have hk1 : (k : Int) < 31 := by omega
      have hL2 : Hid (L.set k 31 = List.replicate (k + 1) 31 ++ List.replicate (31 - (k + 1)) 0) := Lib.hid (by
        rw [hL, List.set_append_right _ _ (by simp), List.length_replicate, Nat.sub_self, show 31 - k = (31 - (k + 1)) + 1 by omega, List.replicate_succ, List.set_cons_zero, List.replicate_succ', List.append_assoc]; rfl)
      have hO2 := Lib.hid (OInts.putI 31 hO hlt)
      have hb2 := Lib.hid (hbw.setCell (p := ⟨G, k, none⟩) (Nat.le_refl _) (.int .i64 31))
      replace hL := Lib.hid hL
      clear hO
      go_wp2
      go_roundw
      case rel => exact ⟨k + 1, _, by omega, by go_num, hb2.out, hO2.out, hL2.out⟩
      case measure => simp [intOf]; omega
    · obtain rfl : k = 31 := by omega
      simp only [show ((31 : Nat) : Int) = 31 from rfl]
      rw [show 31 - 31 = 0 from rfl, List.replicate_zero, List.append_nil] at hL
      subst hL
      obtain ⟨c0, f0, l0, _⟩ := OInts.partsI hO hto2
      have hO2 := Lib.hid (OInts.putI 0 hO hto2)
      have hb2 := Lib.hid (hbw.setCell (p := ⟨G, to, none⟩) (Nat.le_refl _) (.int .i64 0))
      have hF2 := Lib.hid (FarI.start (ps := ps) hto)
      generalize (List.replicate 31 (31 : Int)).set to 0 = L2 at *
      clear hO
      go_wp2
      generalize wr.setCell ⟨G, to, none⟩ (.int .i64 0) = w2 at *
      go_loopw [7, 8, 9, 10] (fun mo _ _ _ wr => ∃ (more : Bool) (L : List Int), mo = .bool more ∧ Below G w wr ∧ OInts wr G (some ⟨G, 0, none⟩) 31 L ∧ FarI ps to L ∧ (more = false → IsFar ps to (fun a => L.getD a 0))) (fun mo _ _ _ wr => 2 * (readJ wr (.slice (some ⟨G, 0, none⟩) 31 31)).sum.toNat + boolN mo)
      case atStart => exact ⟨true, L2, rfl, hb2.out, hO2.out, hF2.out, fun e => by cases e⟩
      case round =>
        rename World => wo
        obtain ⟨more, L0, rfl, hbo, hOo, hFo, hdone⟩ := hrel
        have hrd0 := Lib.hid (readJ_of (c := 31) hOo.srow)
        have hs0 := Lib.hid hFo.sum0
        cases more with
        | false =>
          have hfar := Lib.hid (hdone rfl)
          replace hOo := Lib.hid hOo
          replace hFo := Lib.hid hFo
          clear hdone
          go_wp2
          go_ret
          exact ⟨G, L0, rfl, Nat.le_of_eq hGw.out, by rw [hGw.out]; exact hOo.out, hfar.out, by rw [hGw.out]; exact hbo⟩
        | true =>
          clear hdone
          have hP0 := Lib.hid (PassI.start hFo)
          replace hFo := Lib.hid hFo
          have hOo' := Lib.hid hOo
          clear hOo
          go_wp2
          go_loopw [7, 8, 9, 10] (fun mo at' _ _ wr => ∃ (more : Bool) (L : List Int) (a : Nat), mo = .bool more ∧ a ≤ 31 ∧ at' = .int .i64 (a : Int) ∧ Below G w wr ∧ OInts wr G (some ⟨G, 0, none⟩) 31 L ∧ PassI ps to L0 a 0 more L) (fun _ at' _ _ _ => 31 - (intOf at').toNat)
          case atStart => exact ⟨false, L0, 0, rfl, by omega, rfl, hbo, hOo'.out, hP0.out⟩
          case round =>
            rename World => wa
            obtain ⟨more, L, a, rfl, ha, rfl, hba, hOa, hPa⟩ := hrel
            by_cases hlt : a < 31
            · have ha0 : (0 : Int) ≤ (a : Int) := Int.natCast_nonneg _
              have ha1 : (a : Int) ≤ 30 := by omega
              have ha2 : (a : Int) < 31 := by omega
              have ha3 : a ≤ 30 := by omega
              have hwa : IntKind.i64.wrap ((a : Int) + 1) = ((a + 1 : Nat) : Int) := by rw [IntWalk.i64_in _ (by omega)]; omega
              replace hOa := Lib.hid hOa
              replace hPa := Lib.hid hPa
              go_wp2
              go_loopw [7, 9, 10] (fun mo kk _ wr => ∃ (more : Bool) (L : List Int) (k : Nat), mo = .bool more ∧ k ≤ 3 ∧ kk = .int .i64 (k : Int) ∧ Below G w wr ∧ OInts wr G (some ⟨G, 0, none⟩) 31 L ∧ PassI ps to L0 a k more L) (fun _ kk _ _ => 3 - (intOf kk).toNat)
              case atStart => exact ⟨more, L, 0, rfl, by omega, rfl, hba, hOa.out, hPa.out⟩
              case round =>
                rename World => wk
                obtain ⟨more, L, k, rfl, hk, rfl, hbk, hOk, hPk⟩ := hrel
                by_cases hk3 : k < 3
                · have hk0 : (0 : Int) ≤ (k : Int) := Int.natCast_nonneg _
                  have hk1 : (k : Int) < 3 := by omega
                  have hmv := mvB_at k hk3
                  rw [bAt_eq (show k < (⟨#[35, 60, 62]⟩ : ByteArray).size from hk3)] at hmv
                  have hwz := hbk.size
                  have hS := h.below (hGw.out ▸ hbk)
                  obtain ⟨ca, fa, la, _⟩ := OInts.partsI hOk hlt
                  obtain ⟨ra0, ra1⟩ := hPk.far.rng a ha3
                  rcases nextP_range ps (a : Int) (mvB k) with hneg | ⟨hge, hle⟩
                  · have hcl := Lib.hid (hnx0.out a k (-1) hneg ha3 wk hS)
                    have hP2 := Lib.hid (hPk.skip (fun m hm => absurd (hneg.symm.trans hm) (by omega)))
                    replace hneg := Lib.hid hneg
                    replace hPk := Lib.hid hPk
                    replace hOk := Lib.hid hOk
                    go_wp2_with fail
                    refine hcl.out.mono ?_
                    rintro e w5 ⟨rfl, rfl⟩
                    go_wp2_with fail
                    go_quiet (fail)
                    have hOq := Lib.hid (ORow.below hOk.out (below_drewN (Below.refl _ wk) nq))
                    have hbq := Lib.hid (below_drewN hbk nq)
                    clear hOk ca fa la hS
                    generalize wk.drewN nq = w6 at *
                    go_wp2
                    go_roundw
                    case rel => exact ⟨more, L, k + 1, rfl, by omega, by go_num, hbq.out, hOq.out, hP2.out⟩
                    case measure => simp [intOf]; omega
                  · obtain ⟨m, hm⟩ : ∃ m : Nat, nextP ps (a : Int) (mvB k) = (m : Int) := ⟨(nextP ps (a : Int) (mvB k)).toNat, by omega⟩
                    have hm30 := next_le hm
                    have hcl := Lib.hid (hnx0.out a k (m : Int) hm ha3 wk hS)
                    obtain ⟨cm, fm, lm, _⟩ := OInts.partsI hOk (show m < 31 by omega)
                    obtain ⟨rm0, rm1⟩ := hPk.far.rng m hm30
                    have hm0 : (0 : Int) ≤ (m : Int) := Int.natCast_nonneg _
                    have hm1 : (m : Int) < 31 := by omega
                    have hrelax := Lib.hid (fun hlt2 => hPk.relax ha3 hk3 hm hlt2)
                    have hskip := Lib.hid (fun (hge2 : ¬ L.getD m 0 + 1 < L.getD a 0) => hPk.skip (fun n' hn' => by
                      have : m = n' := by have := hm.symm.trans hn'; omega
                      subst this; omega))
                    have hput := Lib.hid (fun x W (hW : OInts W G (some ⟨G, 0, none⟩) 31 L) => OInts.putI x hW hlt)
                    have hcells := Lib.hid (fun W (hW : OInts W G (some ⟨G, 0, none⟩) 31 L) => And.intro (OInts.partsI hW (show m < 31 by omega)) (OInts.partsI hW hlt))
                    obtain ⟨x, hx⟩ : ∃ x, L.getD m 0 = x := ⟨_, rfl⟩
                    obtain ⟨y, hy⟩ : ∃ y, L.getD a 0 = y := ⟨_, rfl⟩
                    rw [hx] at cm hrelax hskip rm0 rm1 hcells
                    rw [hy] at ca hrelax hskip ra0 ra1 hcells
                    have hwx : IntKind.i64.wrap (x + 1) = x + 1 := IntWalk.i64_in _ (by omega)
                    replace hPk := Lib.hid hPk
                    replace hOk := Lib.hid hOk
                    replace hm := Lib.hid hm
                    replace hx := Lib.hid hx
                    replace hy := Lib.hid hy
                    replace hge := Lib.hid hge
                    replace hle := Lib.hid hle
                    by_cases hxy : x + 1 < y
                    · have g1 : decide (x + 1 < y) = true := decide_eq_true hxy
                      have hP2 := Lib.hid (hrelax.out hxy)
                      replace hxy := Lib.hid hxy
                      go_wp2_with fail
                      refine hcl.out.mono ?_
                      rintro e w5 ⟨rfl, rfl⟩
                      go_wp2_with fail
                      go_quiet (fail)
                      have hOq := Lib.hid (ORow.below hOk.out (below_drewN (Below.refl _ wk) nq))
                      have hbq := below_drewN hbk nq
                      clear hOk ca fa la hS cm fm lm
                      generalize wk.drewN nq = w6 at *
                      obtain ⟨⟨cm, fm, lm, _⟩, ca, fa, la, _⟩ := hcells.out w6 hOq.out
                      have hOr := Lib.hid (hput.out (x + 1) w6 hOq.out)
                      have hbr := Lib.hid (hbq.setCell (p := ⟨G, a, none⟩) (Nat.le_refl _) (.int .i64 (x + 1)))
                      clear hOq hbq
                      go_wp2
                      go_roundw
                      case rel => exact ⟨true, _, k + 1, rfl, by omega, by go_num, hbr.out, hOr.out, hP2.out⟩
                      case measure => simp [intOf]; omega
                    · have g1 : decide (x + 1 < y) = false := decide_eq_false hxy
                      have hP2 := Lib.hid (hskip.out hxy)
                      replace hxy := Lib.hid hxy
                      go_wp2_with fail
                      refine hcl.out.mono ?_
                      rintro e w5 ⟨rfl, rfl⟩
                      go_wp2_with fail
                      go_quiet (fail)
                      have hOq := Lib.hid (ORow.below hOk.out (below_drewN (Below.refl _ wk) nq))
                      have hbq := Lib.hid (below_drewN hbk nq)
                      clear hOk ca fa la hS cm fm lm
                      generalize wk.drewN nq = w6 at *
                      go_wp2
                      go_roundw
                      case rel => exact ⟨more, L, k + 1, rfl, by omega, by go_num, hbq.out, hOq.out, hP2.out⟩
                      case measure => simp [intOf]; omega
                · obtain rfl : k = 3 := by omega
                  have hP2 := Lib.hid hPk.row
                  replace hPk := Lib.hid hPk
                  replace hOk := Lib.hid hOk
                  go_wp2
                  go_roundw
                  case rel => exact ⟨more, L, a + 1, rfl, by omega, by go_num, hbk, hOk.out, hP2.out⟩
                  case measure => simp [intOf]; omega
            · obtain rfl : a = 31 := by omega
              have hd := Lib.hid (fun e : more = false => PassI.done (L0 := L0) hto (e ▸ hPa))
              have hF := Lib.hid hPa.far
              have hs1 := hPa.far.sum0
              have hle := hPa.le
              have hlt2 := hPa.lt
              have hrd := Lib.hid (readJ_of (c := 31) hOa.srow)
              have hdec : Hid (2 * L.sum.toNat + boolN (.bool more) < 2 * L0.sum.toNat + 1) := Lib.hid (by
                have := hs0.out
                cases more with
                | true => have := hlt2 rfl; simp only [boolN]; omega
                | false => simp only [boolN]; omega)
              replace hPa := Lib.hid hPa
              replace hOa := Lib.hid hOa
              replace hle := Lib.hid hle
              replace hlt2 := Lib.hid hlt2
              replace hs1 := Lib.hid hs1
              go_wp2
              go_roundw
              case rel => exact ⟨more, L, rfl, hba, hOa.out, hF.out, hd.out⟩
              case measure =>
                show 2 * (readJ wa (.slice (some ⟨G, 0, none⟩) 31 31)).sum.toNat + boolN (.bool more) < 2 * (readJ wo (.slice (some ⟨G, 0, none⟩) 31 31)).sum.toNat + 1
                rw [hrd.out, hrd0.out]
                exact hdec.out
end Go.Proofs.Ytcmmcgjpaabnoaa
