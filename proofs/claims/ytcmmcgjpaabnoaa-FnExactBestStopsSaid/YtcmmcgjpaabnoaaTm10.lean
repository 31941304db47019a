/- Moves of the carriage: the model's PageMoves and BestStops. -/
import Derived.Test.YtcmmcgjpaabnoaaTm9
namespace Go.Proofs.Ytcmmcgjpaabnoaa
open Go.RowKit Go.ChangeShapes Go.WideShapes Go.Deep
set_option linter.unusedVariables false
set_option linter.unusedSimpArgs false

noncomputable def pgR (ps : List Int) (rs : List ByteArray) : Int × Int := if (stB ps && decide (rs.length ≤ 12)) = true then (if rs.all rowB = true then ((pageN ps rs : Int), 0) else (0, 2)) else (0, 1)
set_option maxHeartbeats 1600000 in
theorem pg11_specC (A : Option Addr) (n c : Nat) (ps : List Int) (B : Option Addr) (m d : Nat) (rs : List ByteArray) (w : World) (h : Ints w A n ps) (hn : n ≤ 1048576) (hR : Strs w B m rs) (hm : m ≤ 1048576) (hg : ∀ x ∈ rs, x.size ≤ maxLen) :
    Calls Try.prog 24 #[.slice A n c, .slice B m d] w fun e w' => e = .returned (.tuple #[.int .i64 (pgR ps rs).1, .int .i64 (pgR ps rs).2]) ∧ Below w.heap.size w w' := by
  have hl := Lib.hid hR.1
  generalize hv : pgR ps rs = r
  cases h1 : stB ps with
  | false =>
    have hbad : Hid (r = (0, 1)) := Lib.hid (by rw [← hv, pgR, h1]; rfl)
    have hc := Lib.hid (ok11 A n c ps h1 w h hn)
    clear h1 hv hg
    go_enter Try.func24, Try.ntmps24
    go_wp2_with fail
    refine hc.out.mono ?_
    rintro e w1 ⟨rfl, hb1⟩
    go_wp2
    go_ret2
    exact ⟨ret8_2 hbad.out, hb1⟩
  | true =>
    have hc := Lib.hid (ok11 A n c ps h1 w h hn)
    by_cases h12 : m ≤ 12
    · have g1 : decide ((12 : Int) < (m : Int)) = false := decide_eq_false (by omega)
      have g2 : decide (12 < m) = false := decide_eq_false (by omega)
      have hres : Hid (r = if rs.all rowB = true then ((pageN ps rs : Int), 0) else (0, 2)) := Lib.hid (by rw [← hv, pgR, h1, hl.out, decide_eq_true h12]; rfl)
      replace h12 := Lib.hid h12
      clear hv
      cases hp : rs.all rowB with
      | false =>
        have hbad : Hid (r = (0, 2)) := Lib.hid (by rw [hres.out, hp]; rfl)
        have hc2 := Lib.hid (fun W hW => rows11 B m d rs hp W hW hm hg)
        clear h1 hp hg
        go_enter Try.func24, Try.ntmps24
        go_wp2_with fail
        refine hc.out.mono ?_
        rintro e w1 ⟨rfl, hb1⟩
        go_wp2_with fail
        refine (hc2.out _ (hR.below hb1)).mono ?_
        rintro e w2 ⟨rfl, rfl⟩
        go_wp2
        go_ret2
        exact ⟨ret8_2 hbad.out, hb1⟩
      | true =>
        have hgood : Hid (r = ((pageN ps rs : Int), 0)) := Lib.hid (by rw [hres.out, if_pos hp])
        have hc2 := Lib.hid (fun W hW => rows11 B m d rs hp W hW hm hg)
        have hc3 := Lib.hid (fun W hW hW2 => page11 A n c ps B m d rs W hW hn hW2 h12.out (fun x hx => rowB_size (List.all_eq_true.1 hp x hx)))
        clear h1 hp hg
        go_enter Try.func24, Try.ntmps24
        go_wp2_with fail
        refine hc.out.mono ?_
        rintro e w1 ⟨rfl, hb1⟩
        have hS1 := h.below hb1
        have hR1 := hR.below hb1
        go_wp2_with fail
        refine (hc2.out _ hR1).mono ?_
        rintro e w2 ⟨rfl, rfl⟩
        go_wp2_with fail
        refine (hc3.out _ hS1 hR1).mono ?_
        rintro e w3 ⟨rfl, _, hb3⟩
        go_wp2
        go_ret2
        exact ⟨ret8_2 hgood.out, hb1.step hb3⟩
    · have g1 : decide ((12 : Int) < (m : Int)) = true := decide_eq_true (by omega)
      have g2 : decide (12 < m) = true := decide_eq_true (by omega)
      have hbad : Hid (r = (0, 1)) := Lib.hid (by rw [← hv, pgR, h1, hl.out, decide_eq_false h12]; rfl)
      replace h12 := Lib.hid h12
      clear h1 hv hg
      go_enter Try.func24, Try.ntmps24
      go_wp2_with fail
      refine hc.out.mono ?_
      rintro e w1 ⟨rfl, hb1⟩
      go_wp2
      go_ret2
      exact ⟨ret8_2 hbad.out, hb1⟩
theorem own11 (A : Option Addr) (n c : Nat) (xs : List Int) (w : World) (h : Ints w A n xs) (hn : n ≤ 100000) :
    Calls Try.prog 77 #[.slice A n c] w fun e w' => ∃ A' c', e = .returned (.slice A' n c') ∧ w'.ownsRow w.heap.size 2 1 (.slice A' n c') n (xs.flatMap intC) ∧ Below w.heap.size w w' := by
  have hl := Lib.hid h.1
  obtain ⟨v1, w1, hrun, hown, hgr⟩ := app_ints8 (w.alloc (.cells #[] 2)) w.heap.size 22 (.slice (some ⟨w.heap.size, 0, none⟩) 0 0) 0 [] (owns_new8 w _) A n c xs (h.below (below_a1 _ _)) (by omega) (by simp)
  rw [Nat.zero_add, List.nil_append] at hown
  obtain ⟨A', c', rfl⟩ := owns_form8 hown
  have hfin := Lib.hid hown
  have hbel : Hid (Below w.heap.size w w1) := Lib.hid (Below.grown (below_a1 _ _) hgr (by simp) (fun j hj => by simp [Value.ownBlock] at hj; omega))
  clear hown hgr h
  go_enter Try.func77, Try.ntmps77
  go_wp2_with (at_builtin; refine Lib.wpList_append_run_sl _ rfl _ _ 22 rfl _ _ rfl rfl hrun ?_)
  go_wp2
  go_ret
  exact ⟨_, _, rfl, hfin.out, hbel.out⟩
/-- All lists of so many columns from one on, in their order. -/
def allL : Nat → Nat → List (List Int)
  | 0, _ => [[]]
  | m + 1, a => (List.range' a (31 - a)).flatMap (fun c => (allL m (c + 1)).map (fun t => (c : Int) :: t))
noncomputable def pickS (rs : List ByteArray) (acc : Option (List Int × Nat)) (S : List Int) : Option (List Int × Nat) :=
  match acc with
  | none => some (S, pageN S rs)
  | some (b, l) => if pageN S rs < l then some (S, pageN S rs) else some (b, l)
noncomputable def bestS (rs : List ByteArray) (m : Nat) : Option (List Int × Nat) := (allL m 1).foldl (pickS rs) none
/-- The walk's state, behind the columns before a. -/
noncomputable def accTo (rs : List ByteArray) (S : List Int) (m a k : Nat) (acc : Option (List Int × Nat)) : Option (List Int × Nat) :=
  (((List.range' a k).flatMap (fun c => (allL m (c + 1)).map (fun t => (c : Int) :: t))).map (fun t => S ++ t)).foldl (pickS rs) acc
theorem accTo_zero (rs : List ByteArray) (S : List Int) (m a : Nat) (acc : Option (List Int × Nat)) : accTo rs S m a 0 acc = acc := rfl
theorem accTo_next (rs : List ByteArray) (S : List Int) (m a k : Nat) (acc : Option (List Int × Nat)) : accTo rs S m a (k + 1) acc = ((allL m (a + k + 1)).map (fun t => (S ++ [((a + k : Nat) : Int)]) ++ t)).foldl (pickS rs) (accTo rs S m a k acc) := by
  rw [accTo, List.range'_concat, List.flatMap_append, List.map_append, List.foldl_append, ← accTo, Nat.one_mul]
  congr 1
  simp [List.flatMap_cons]
theorem accTo_all (rs : List ByteArray) (S : List Int) (m a : Nat) (acc : Option (List Int × Nat)) : accTo rs S m a (31 - a) acc = ((allL (m + 1) a).map (fun t => S ++ t)).foldl (pickS rs) acc := rfl
/-- What the struct of the walk holds. -/
def WAcc (b : Nat) (B : Option Addr) (m d base : Nat) (acc : Option (List Int × Nat)) (w : World) : Prop :=
  ∃ bv least, w.heap[b]? = some (.cells #[.slice B m d, bv, .int .i64 least] 84) ∧
    match acc with
    | none => least = -1 ∧ bv = .slice none 0 0
    | some (bl, l) => least = (l : Int) ∧ l ≤ 10800 ∧ ∃ A k c, bv = .slice A k c ∧ k ≤ 10 ∧ OInts w base A k bl ∧ ∀ p, A = some p → p.block ≠ b
theorem OInts.stays {w w' : World} {base b n : Nat} {A : Option Addr} {S : List Int} (h : OInts w base A n S) (hg : w.grownBy w' (some b)) (hne : ∀ p, A = some p → p.block ≠ b) : OInts w' base A n S :=
  ORow.block h (fun p hp => hg.block _ (ORow.lt h p hp) (by simp; exact hne p hp))
theorem Strs.stays {w w' : World} {b n : Nat} {A : Option Addr} {S : List ByteArray} (h : Strs w A n S) (hg : w.grownBy w' (some b)) (hne : 0 < n → ∀ p, A = some p → p.block ≠ b) : Strs w' A n S := by
  by_cases h0 : 0 < n
  · exact SRow.kept (B := some ⟨b, 0, none⟩) h hg (fun p q hp hq => by cases hq; exact hne h0 p hp)
  · exact ⟨h.1, fun h1 => absurd h1 h0⟩
theorem WAcc.below {b : Nat} {B : Option Addr} {m d base : Nat} {acc : Option (List Int × Nat)} {w w' : World} (h : WAcc b B m d base acc w) (hb : Below w.heap.size w w') : WAcc b B m d base acc w' := by
  obtain ⟨bv, least, h1, h2⟩ := h
  refine ⟨bv, least, (hb.block _ (own_lt h1)).trans h1, ?_⟩
  match acc, h2 with
  | none, h2 => exact h2
  | some (bl, l), ⟨a, a2, A, k, c, e, f, g, i⟩ => exact ⟨a, a2, A, k, c, e, f, ORow.below g hb, i⟩
theorem WAcc.lt {b : Nat} {B : Option Addr} {m d base : Nat} {acc : Option (List Int × Nat)} {w : World} (h : WAcc b B m d base acc w) : b < w.heap.size := by
  obtain ⟨bv, least, h1, _⟩ := h
  exact own_lt h1
theorem grown_of_below11 {w w' : World} {b : Nat} (h : Below w.heap.size w w') : w.grownBy w' (some b) := grown_below h _
set_option maxRecDepth 100000 in
set_option maxHeartbeats 6400000 in
theorem leaf11 (rs : List ByteArray) (hs : ∀ x ∈ rs, x.size ≤ 30) (B : Option Addr) (m d : Nat) (hm : m ≤ 12) (base b : Nat) (A : Option Addr) (n c : Nat) (S : List Int) (from' : Int) (acc : Option (List Int × Nat)) (w : World)
    (hn : n ≤ 10) (hS : OInts w base A n S) (hA : ∀ p, A = some p → p.block ≠ b) (hR : Strs w B m rs) (hW : WAcc b B m d base acc w) :
    Calls Try.prog 58 #[.pointer (some ⟨b, 0, none⟩), .slice A n c, .int .i64 from', .int .i64 0] w fun e w' => e = .returned (.tuple #[]) ∧ w.grownBy w' (some b) ∧ WAcc b B m d base (pickS rs acc S) w' := by
  have hpg := Lib.hid (fun W hW1 hW2 => page11 A n c S B m d rs W hW1 (by omega) hW2 hm hs)
  have hbl := hW.lt
  obtain ⟨bv, least, h1, h2⟩ := hW
  have c0 := cell_of_block h1 (i := 0) (u := .slice B m d) rfl
  have hS0 := Lib.hid hS
  have h1h := Lib.hid h1
  have h2h := Lib.hid h2
  clear h1 h2
  go_enter Try.func58, Try.ntmps58
  go_wp2_with fail
  refine (hpg.out _ hS.srow hR).mono ?_
  rintro e w1 ⟨rfl, hpl, hb1⟩
  obtain ⟨N, hN⟩ : ∃ N, pageN S rs = N := ⟨_, rfl⟩
  rw [hN] at hpl ⊢
  have hNh := Lib.hid hN
  have h11 := (hb1.block _ hbl).trans h1h.out
  have c1 := cell_of_block h11 (i := 0) (u := .slice B m d) rfl
  have c2 := cell_of_block h11 (i := 1) (u := bv) rfl
  have c3 := cell_of_block h11 (i := 2) (u := .int .i64 least) rfl
  have f1 := own_frozen h11 1
  have f2 := own_frozen h11 2
  have l1 := own_lt h11
  have hg1 : w.grownBy w1 (some b) := grown_of_below11 hb1
  have hS1 : OInts w1 base A n S := ORow.below hS0.out hb1
  -- what the two stores leave
  have hst : Hid (∀ W2, W2 = (w1.setCell ⟨b, 1, none⟩ (.slice A n c)).setCell ⟨b, 2, none⟩ (.int .i64 (N : Int)) → w.grownBy W2 (some b) ∧ WAcc b B m d base (some (S, N)) W2) := Lib.hid (fun W2 e2 => by
    subst e2
    have hgw : w1.grownBy ((w1.setCell ⟨b, 1, none⟩ (.slice A n c)).setCell ⟨b, 2, none⟩ (.int .i64 (N : Int))) (some b) := grown_trans grown_set grown_set
    refine ⟨grown_trans hg1 hgw, .slice A n c, (N : Int), ?_, rfl, hpl, A, n, c, rfl, hn, OInts.stays hS1 hgw hA, hA⟩
    have s1 := heap_setCell_same w1 b 1 _ _ (.slice A n c) h11
    have s2 := heap_setCell_same _ b 2 _ _ (.int .i64 (N : Int)) s1
    rw [s2]
    rfl)
  have hkeep : Hid (∀ bl l, acc = some (bl, l) → WAcc b B m d base (some (bl, l)) w1) := Lib.hid (fun bl l e => by
    subst e
    obtain ⟨a, a2, A', k, c', e1, e2, e3, e4⟩ := h2h.out
    exact ⟨bv, least, h11, a, a2, A', k, c', e1, e2, ORow.below e3 hb1, e4⟩)
  replace h11 := Lib.hid h11
  replace hg1 := Lib.hid hg1
  replace hS1 := Lib.hid hS1
  clear hb1 c0 hpg hN
  cases acc with
  | none =>
    obtain ⟨rfl, rfl⟩ := h2h.out
    go_wp2
    refine bodyPost_ret (results_none rfl _ _ _) rfl ?_
    have := hst.out _ rfl
    exact ⟨rfl, this.1, by rw [pickS, hNh.out]; exact this.2⟩
  | some p =>
    obtain ⟨bl, l⟩ := p
    have hk := hkeep.out bl l rfl
    obtain ⟨rfl, hl18, A', k, c', rfl, _, _, _⟩ := h2h.out
    have q1 : decide ((l : Int) < 0) = false := decide_eq_false (by omega)
    by_cases hlt : N < l
    · have q2 : decide ((N : Int) < (l : Int)) = true := decide_eq_true (by omega)
      have q3 : decide (N < l) = true := decide_eq_true hlt
      have hpk : Hid (pickS rs (some (bl, l)) S = some (S, N)) := Lib.hid (by rw [pickS, hNh.out, if_pos hlt])
      replace hlt := Lib.hid hlt
      go_wp2
      refine bodyPost_ret (results_none rfl _ _ _) rfl ?_
      have := hst.out _ rfl
      exact ⟨rfl, this.1, by rw [hpk.out]; exact this.2⟩
    · have q2 : decide ((N : Int) < (l : Int)) = false := decide_eq_false (by omega)
      have q3 : decide (N < l) = false := decide_eq_false hlt
      have hpk : Hid (pickS rs (some (bl, l)) S = some (bl, l)) := Lib.hid (by rw [pickS, hNh.out, if_neg hlt])
      replace hlt := Lib.hid hlt
      go_wp2
      refine bodyPost_ret (results_none rfl _ _ _) rfl ?_
      exact ⟨rfl, hg1.out, by rw [hpk.out]; exact hk⟩
set_option maxRecDepth 100000 in
set_option maxHeartbeats 6400000 in
theorem walk11 (rs : List ByteArray) (hs : ∀ x ∈ rs, x.size ≤ 30) (B : Option Addr) (m d : Nat) (hm : m ≤ 12) (base b : Nat) (hBb : 0 < m → ∀ p, B = some p → p.block ≠ b) : ∀ (more : Nat), ∀ (A : Option Addr) (n c : Nat) (S : List Int) (a : Nat) (acc : Option (List Int × Nat)) (w : World),
    n + more ≤ 10 → a ≤ 31 → OInts w base A n S → (∀ p, A = some p → p.block ≠ b) → base ≤ w.heap.size → Strs w B m rs → WAcc b B m d base acc w →
    Calls Try.prog 58 #[.pointer (some ⟨b, 0, none⟩), .slice A n c, .int .i64 (a : Int), .int .i64 (more : Int)] w fun e w' => e = .returned (.tuple #[]) ∧ w.grownBy w' (some b) ∧ WAcc b B m d base (((allL more a).map (fun t => S ++ t)).foldl (pickS rs) acc) w'
  | 0, A, n, c, S, a, acc, w, hn, ha, hS, hA, hbs, hR, hW => by
    have h := leaf11 rs hs B m d hm base b A n c S (a : Int) acc w (by omega) hS hA hR hW
    have e : ((allL 0 a).map (fun t => S ++ t)).foldl (pickS rs) acc = pickS rs acc S := by simp [allL]
    rw [e]
    exact h
  | more + 1, A, n, c, S, a, acc, w, hn, ha, hS, hA, hbs, hR, hW => by
    have ih := Lib.hid (walk11 rs hs B m d hm base b hBb more)
    obtain ⟨i0, hi, hz0, hz1, hz2⟩ := info_parts Try.infoI64
    have hlS := Lib.hid hS.1
    have hres := Lib.hid (accTo_all rs S more a acc)
    rw [← hres.out]
    obtain ⟨M, hM⟩ : ∃ M, more + 1 = M := ⟨_, rfl⟩
    rw [hM]
    have g1 : ((M : Int) == 0) = false := beq_eq_false_iff_ne.2 (by omega)
    have g2 : (M == 0) = false := beq_eq_false_iff_ne.2 (by omega)
    have hwm : IntKind.i64.wrap ((M : Int) - 1) = (more : Int) := by rw [IntWalk.i64_in _ (by omega)]; omega
    replace hM := Lib.hid hM
    have hW0 := Lib.hid hW
    have hS0 := Lib.hid hS
    have hbl := hW.lt
    clear hW hS hres
    go_enter Try.func58, Try.ntmps58
    go_wp2
    go_loopw [9] (fun cc wi => ∃ k : Nat, k ≤ 31 - a ∧ cc = .int .i64 ((a + k : Nat) : Int) ∧ w.grownBy wi (some b) ∧ WAcc b B m d base (accTo rs S more a k acc) wi) (fun cc _ => 31 - (intOf cc).toNat)
    case atStart => exact ⟨0, by omega, rfl, grown_refl _ _, hW0.out⟩
    case round =>
      rename World => wi
      obtain ⟨k, hk, rfl, hgi, hWi⟩ := hrel
      obtain ⟨x, hx⟩ : ∃ x, a + k = x := ⟨_, rfl⟩
      have hsz := hgi.size
      have hbi := hWi.lt
      rw [hx]
      by_cases hlt : x ≤ 30
      · have h1 : (x : Int) ≤ 30 := by omega
        have hSi := OInts.stays hS0.out hgi hA
        have hRi := Strs.stays hR hgi hBb
        have how := Lib.hid (own11 A n c S wi hSi.srow (by omega))
        have hnx := Lib.hid (accTo_next rs S more a k acc)
        rw [hx] at hnx
        have hwx : IntKind.i64.wrap ((x : Int) + 1) = ((x + 1 : Nat) : Int) := by rw [IntWalk.i64_in _ (by omega)]; omega
        have hWh := Lib.hid hWi
        replace hx := Lib.hid hx
        replace hSi := Lib.hid hSi
        clear hWi
        go_wp2_with fail
        refine how.out.mono ?_
        rintro e w2 ⟨A2, c2, rfl, hown, hb2⟩
        have hrl := Lib.hid hown
        clear hown how
        have hz2' := hb2.size
        go_wp2_with (at_builtin; refine wpList_append_own _ rfl _ _ 22 rfl wi.heap.size 2 i0 _ 1 8 Try.underlying22 hi hz0 hz1 hz2 rfl (by decide) _ _ _ rfl (hrl.out.alloc _) ⟨w2.heap.size, 0, none⟩ 1 1 [.int .i64 (x : Int)] rfl rfl (news8 _ _ _) (one8 _) (by unfold maxLen; omega) (by omega) (by simp; omega) ?_)
        intro vq wq hownq hgrq hnilq
        have hgqq := grown_trans (grown_below (below_a1 w2 _) _) hgrq
        have hbq : Below wi.heap.size wi wq := hb2.grown hgqq hz2' (fun j hj => owns_ge8 hrl.out hj)
        have hownq2 : wq.ownsRow wi.heap.size 2 1 vq (n + 1) ((S ++ [(x : Int)]).flatMap intC) := by rw [snoc8]; exact hownq
        obtain ⟨A3, c3, rfl, hO3⟩ := owns_i8 (by rw [List.length_append, hlS.out]; rfl) hownq2
        have hA3 : ∀ p, A3 = some p → p.block ≠ b := fun p hp => by have := ORow.own hO3 p hp; omega
        have hW3 := hWh.out.below hbq
        have hR3 := hRi.below hbq
        have hO4 : OInts wq base A3 (n + 1) (S ++ [(x : Int)]) := ORow.mono hO3 (by omega)
        have hcall := Lib.hid (ih.out A3 (n + 1) c3 (S ++ [(x : Int)]) (x + 1) (accTo rs S more a k acc) wq (by omega) (by omega) hO4 hA3 (by have := hbq.size; omega) hR3 hW3)
        have hgw3 := Lib.hid (grown_trans hgi (grown_of_below11 hbq))
        clear hgrq hnilq hgqq hownq hownq2 hO3 hO4 hW3 hR3 hrl hb2 hWh
        go_wp2_with fail
        refine hcall.out.mono ?_
        rintro e w5 ⟨rfl, hg5, hW5⟩
        have hgf := Lib.hid (grown_trans hgw3.out hg5)
        have hWf : Hid (WAcc b B m d base (accTo rs S more a (k + 1) acc) w5) := Lib.hid (by rw [hnx.out]; exact hW5)
        clear hg5 hW5 hcall hgw3
        have hxx := hx.out
        go_wp2
        go_roundw
        case rel => exact ⟨k + 1, by omega, by rw [show a + (k + 1) = x + 1 by omega]; first | rfl | go_num, hgf.out, hWf.out⟩
        case measure => simp [intOf]; omega
      · have h1 : ¬ (x : Int) ≤ 30 := by omega
        have g5 : decide ((x : Int) ≤ 30) = false := decide_eq_false h1
        have g6 : decide (x ≤ 30) = false := decide_eq_false hlt
        obtain rfl : k = 31 - a := by omega
        replace hx := Lib.hid hx
        replace hWi := Lib.hid hWi
        go_wp2
        first | go_end0 | refine bodyPost_ret (results_none rfl _ _ _) rfl ?_
        exact ⟨rfl, hgi, hWi.out⟩
/-- The codes and the answer of BestStops. -/
noncomputable def bsV (o : Option (List Int × Nat)) : List Int × Int := match o with | some (L, l) => (L, (l : Int)) | none => ([], -1)
noncomputable def bestR (rs : List ByteArray) (k : Int) : List Int × Int × Int :=
  if 12 < rs.length then ([], 0, 1) else if (rs.all rowB && inR k 0 2) = true then ((bsV (bestS rs k.toNat)).1, (bsV (bestS rs k.toNat)).2, 0) else ([], 0, 2)
theorem pick_some (rs : List ByteArray) : ∀ (l : List (List Int)) (p : List Int × Nat), ∃ q, l.foldl (pickS rs) (some p) = some q
  | [], p => ⟨p, rfl⟩
  | S :: l, p => by
    rw [List.foldl_cons]
    unfold pickS
    split
    · rename_i h; cases h
    · split
      · exact pick_some rs l _
      · exact pick_some rs l _
theorem allL_cons : ∀ (m a : Nat), a + m ≤ 31 → ∃ S r, allL m a = S :: r
  | 0, a, _ => ⟨[], [], rfl⟩
  | m + 1, a, h => by
    obtain ⟨S, r, hS⟩ := allL_cons m (a + 1) (by omega)
    obtain ⟨k, hk⟩ : ∃ k, 31 - a = k + 1 := ⟨31 - a - 1, by omega⟩
    rw [allL, hk, List.range'_succ, List.flatMap_cons, hS]
    exact ⟨_, _, rfl⟩
theorem best_some (rs : List ByteArray) {m : Nat} (h : m ≤ 2) : ∃ q, bestS rs m = some q := by
  obtain ⟨S, r, hS⟩ := allL_cons m 1 (by omega)
  rw [bestS, hS, List.foldl_cons]
  exact pick_some rs r _
/-- Three results, the first one a slice of the call's own. -/
def I3Out (r : List Int × Int × Int) (w : World) (e : Ending) (w' : World) : Prop :=
  ∃ A n c, e = .returned (.tuple #[.slice A n c, .int .i64 r.2.1, .int .i64 r.2.2]) ∧ n ≤ 1048576 ∧ OInts w' w.heap.size A n r.1 ∧ Below w.heap.size w w'
theorem I3Out.bad {r : List Int × Int × Int} {w w' : World} {code : Int} (hr : r = ([], 0, code)) (hb : Below w.heap.size w w') : I3Out r w (.returned (.tuple #[.slice none 0 0, .int .i64 0, .int .i64 code])) w' := by
  subst hr
  exact ⟨none, 0, 0, rfl, by omega, ORow.nil_, hb⟩
set_option maxRecDepth 100000 in
set_option maxHeartbeats 3200000 in
theorem bs11_specC (B : Option Addr) (m d : Nat) (rs : List ByteArray) (k : Int) (w : World) (hR : Strs w B m rs) (hm : m ≤ 1048576) (hg : ∀ x ∈ rs, x.size ≤ maxLen) :
    Calls Try.prog 28 #[.slice B m d, .int .i64 k] w (I3Out (bestR rs k) w) := by
  have hl := Lib.hid hR.1
  generalize hv : bestR rs k = r
  by_cases h12 : 12 < m
  · have hbad : Hid (r = ([], 0, 1)) := Lib.hid (by rw [← hv, bestR, if_pos (by rw [hl.out]; exact h12)])
    have g1 : decide ((12 : Int) < (m : Int)) = true := decide_eq_true (by omega)
    have g2 : decide (12 < m) = true := decide_eq_true h12
    replace h12 := Lib.hid h12
    clear hv hg hR
    go_enter Try.func28, Try.ntmps28
    go_wp2
    go_ret3
    exact I3Out.bad hbad.out (Below.refl _ _)
  · have g1 : decide ((12 : Int) < (m : Int)) = false := decide_eq_false (by omega)
    have g2 : decide (12 < m) = false := decide_eq_false h12
    have hres : Hid (r = if (rs.all rowB && inR k 0 2) = true then ((bsV (bestS rs k.toNat)).1, (bsV (bestS rs k.toNat)).2, 0) else ([], 0, 2)) := Lib.hid (by rw [← hv, bestR, if_neg (by rw [hl.out]; exact h12)])
    have hm12 : m ≤ 12 := by omega
    replace h12 := Lib.hid h12
    clear hv
    cases hp : rs.all rowB with
    | false =>
      have hbad : Hid (r = ([], 0, 2)) := Lib.hid (by rw [hres.out, hp]; rfl)
      have hc := Lib.hid (rows11 B m d rs hp w hR hm hg)
      clear hp hg
      go_enter Try.func28, Try.ntmps28
      go_wp2_with fail
      refine hc.out.mono ?_
      rintro e w1 ⟨rfl, rfl⟩
      go_wp2
      go_ret3
      exact I3Out.bad hbad.out (Below.refl _ _)
    | true =>
      have hc := Lib.hid (rows11 B m d rs hp w hR hm hg)
      cases hk : inR k 0 2 with
      | false =>
        have hbad : Hid (r = ([], 0, 2)) := Lib.hid (by rw [hres.out, hp, hk]; rfl)
        have hc2 := Lib.hid (fun W => in8_spec hk W)
        clear hp hg hk
        go_enter Try.func28, Try.ntmps28
        go_wp2_with fail
        refine hc.out.mono ?_
        rintro e w1 ⟨rfl, rfl⟩
        go_wp2_with fail
        refine (hc2.out _).mono ?_
        rintro e w1 ⟨rfl, rfl⟩
        go_wp2
        go_ret3
        exact I3Out.bad hbad.out (Below.refl _ _)
      | true =>
        have hc2 := Lib.hid (fun W => in8_spec hk W)
        obtain ⟨k0, k2⟩ := inR_iff.1 hk
        obtain ⟨K, rfl⟩ : ∃ K : Nat, k = (K : Int) := ⟨k.toNat, by omega⟩
        obtain ⟨⟨bl, l⟩, hq⟩ := best_some rs (m := K) (by omega)
        have hgood : Hid (r = (bl, (l : Int), 0)) := Lib.hid (by rw [hres.out, hp, hk, Int.toNat_natCast, hq]; rfl)
        have hwk := Lib.hid (fun W hW1 hW2 hW3 hW4 hW5 hBb => walk11 rs (fun x hx => rowB_size (List.all_eq_true.1 hp x hx)) B m d hm12 w.heap.size w.heap.size hBb K (some ⟨w.heap.size + 1, 0, none⟩) 0 0 [] 1 none W (by omega) (by omega) hW1 hW2 hW3 hW4 hW5)
        have hqq : Hid (((allL K 1).map (fun t => [] ++ t)).foldl (pickS rs) none = some (bl, l)) := Lib.hid (by simp only [List.nil_append, List.map_id']; exact hq)
        have hBb : 0 < m → ∀ p, B = some p → p.block ≠ w.heap.size := fun h0 p hp' => by
          obtain ⟨bb, off, hA, hb, _⟩ := hR.2 h0
          rw [hA] at hp'
          cases hp'
          simp only
          omega
        replace hBb := Lib.hid hBb
        replace hres := Lib.hid hres
        clear hp hg hk hq
        go_enter Try.func28, Try.ntmps28
        go_wp2_with fail
        refine hc.out.mono ?_
        rintro e w1 ⟨rfl, rfl⟩
        go_wp2_with fail
        refine (hc2.out _).mono ?_
        rintro e w1 ⟨rfl, rfl⟩
        go_wp2_with fail
        have hbe : Hid (Below w.heap.size w ((w.alloc (.cells #[.slice B m d, .slice none 0 0, .int .i64 (-1)] 84)).alloc (.cells #[] 2))) := Lib.hid (below_a2 _ _ _)
        have hWn : Hid (WAcc w.heap.size B m d w.heap.size none ((w.alloc (.cells #[.slice B m d, .slice none 0 0, .int .i64 (-1)] 84)).alloc (.cells #[] 2))) := Lib.hid ⟨.slice none 0 0, -1, ((below_a1 (w.alloc (.cells #[.slice B m d, .slice none 0 0, .int .i64 (-1)] 84)) _).block _ (by simp)).trans (heap_alloc_new _ _), rfl, rfl⟩
        have hOn : Hid (OInts ((w.alloc (.cells #[.slice B m d, .slice none 0 0, .int .i64 (-1)] 84)).alloc (.cells #[] 2)) w.heap.size (some ⟨w.heap.size + 1, 0, none⟩) 0 []) := Lib.hid (by
          have hst0 := owns_new8 (w.alloc (.cells #[.slice B m d, .slice none 0 0, .int .i64 (-1)] 84)) 2
          obtain ⟨A', c', e, hO⟩ := owns_i8 (l := []) rfl hst0
          cases e
          exact ORow.mono (by simpa using hO) (by simp))
        have hRn := hR.below hbe.out
        generalize (w.alloc (.cells #[.slice B m d, .slice none 0 0, .int .i64 (-1)] 84)).alloc (.cells #[] 2) = w2 at *
        refine (hwk.out w2 hOn.out (fun p hp' => by cases hp'; simp) hbe.out.size hRn hWn.out hBb.out).mono ?_
        rintro e w3 ⟨rfl, hg3, hW3⟩
        rw [hqq.out] at hW3
        obtain ⟨bv, least, hblk, rfl, hl18, A9, k9, c9, rfl, hk10, hO9, hne⟩ := hW3
        have c1 := cell_of_block hblk (i := 1) (u := .slice A9 k9 c9) rfl
        have c2 := cell_of_block hblk (i := 2) (u := .int .i64 (l : Int)) rfl
        have hl3 := own_lt hblk
        have hbf := Lib.hid (Below.grown hbe.out hg3 hbe.out.size (fun j hj => by cases hj; exact Nat.le_refl _))
        have hOh := Lib.hid hO9
        replace hblk := Lib.hid hblk
        replace hne := Lib.hid hne
        clear hO9 hg3 hwk hRn
        go_wp2_with fail
        go_quiet (fail)
        have hOq := Lib.hid (ORow.below hOh.out (below_drewN (Below.refl _ w3) nq))
        have hbq := Lib.hid (below_drewN hbf.out nq)
        go_wp2
        go_ret3
        exact ⟨A9, k9, c9, by rw [hgood.out]; rfl, by omega, by rw [hgood.out]; exact hOq.out, hbq.out⟩
end Go.Proofs.Ytcmmcgjpaabnoaa
