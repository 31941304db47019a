/- Strokes that are drawn. -/
import Derived.Test.YtndodlfmjdgpcaaDraw3
import Derived.Test.YtndodlfmjdgpcaaStrokeS
import Derived.Laws.OwnMore
import Derived.Deep.RegionHeld3
namespace Go.Proofs.Ytndodlfmjdgpcaa
open Go.RowKit
set_option linter.unusedVariables false
set_option linter.unusedSimpArgs false

theorem owns_past {w w' : World} {base k : Nat} {e : TypeId} {size n : Nat} {v : Value} {xs : List Value} (h : w.ownsRow base e size v n xs) (hg : w.grownBy w' (some k)) (hk : k < base) : w'.ownsRow base e size v n xs :=
  h.kept hg (by
    cases hob : v.ownBlock with
    | none => exact .inl rfl
    | some b => exact .inr (fun e => by cases e; have := (h.lt _ hob).1; omega))
theorem owns_still {w w' : World} {base : Nat} {e : TypeId} {size n : Nat} {v : Value} {xs : List Value} (h : w.ownsRow base e size v n xs) (hb : Below w.heap.size w w') : w'.ownsRow base e size v n xs :=
  h.kept (grown_below hb none) (by cases v.ownBlock <;> simp)
theorem Try.infoStroke2 : (Try.prog.info? 39).map (fun i => (i.zero, i.size, i.bytes)) = some (some (.agg #[.int .i64 0, .int .i64 0]), 2, 16) := by kernel_rfl
theorem SrcAt.grownO {w w' : World} {r t : Nat} {row : Option Nat} (h : SrcAt w r t) (hg : w.grownBy w' row) (hq : ∀ q, row = some q → r < q) : SrcAt w' r t := by
  cases row with
  | none => exact h.grown (q := r + 1) ⟨hg.os, hg.tape, hg.output, hg.size, fun k hk _ => hg.block k hk (by simp)⟩ (by omega)
  | some q => exact h.grown hg (hq q rfl)
theorem Drawn.youngO {r N : Nat} {x y z : World} {row : Option Nat} (h : Drawn r N x y) (hg : y.grownBy z row) (hN : N ≤ y.heap.size) (hq : ∀ q, row = some q → N ≤ q) : Drawn r N x z := by
  cases row with
  | none => exact h.young (q := N) ⟨hg.os, hg.tape, hg.output, hg.size, fun k hk _ => hg.block k hk (by simp)⟩ hN (Nat.le_refl _)
  | some q => exact h.young hg hN (hq q rfl)
theorem owns_cap {w : World} {base : Nat} {e : TypeId} {size n : Nat} {A : Option Addr} {c : Nat} {xs : List Value} (h : w.ownsRow base e size (.slice A n c) n xs) : n ≤ c := by
  rcases h.2 with ⟨hv, h0⟩ | ⟨g, cap, cur, hv, hb, hg, hcap, _⟩
  · omega
  · cases hv
    exact hcap
theorem min_any (a b : Int) (w : World) : Calls Try.prog 99 #[.int .i64 a, .int .i64 b] w fun e w' => e = .returned (.int .i64 (min a b)) ∧ w = w' := by
  by_cases h : a < b
  · have hd : decide (a < b) = true := decide_eq_true h
    have hr : Hid (min a b = a) := Lib.hid (by omega)
    clear h
    go_enter Try.func99, Try.ntmps99
    go_wp2
    go_ret
    exact ⟨by rw [hr.out]; rfl, rfl⟩
  · have hd : decide (a < b) = false := decide_eq_false h
    have hr : Hid (min a b = b) := Lib.hid (by omega)
    clear h
    go_enter Try.func99, Try.ntmps99
    go_wp2
    go_ret
    exact ⟨by rw [hr.out]; rfl, rfl⟩
theorem chain_snoc {hi : Int} {s : StrokeD} : ∀ {L : List StrokeD} {l : Int}, chain hi l L = true → l ≤ s.tick → (∀ x ∈ L, x.tick ≤ s.tick) → isIn s.bar 0 hi = true → s.tick ≤ 1000000 → chain hi l (L ++ [s]) = true
  | [], l, _, h1, _, h3, h4 => by
    rw [List.nil_append, chain_cons]
    exact ⟨h3, isIn_iff.2 ⟨h1, h4⟩, rfl⟩
  | x :: r, l, h, h1, h2, h3, h4 => by
    rw [chain_cons] at h
    rw [List.cons_append, chain_cons]
    exact ⟨h.1, h.2.1, chain_snoc h.2.2 (h2 x (List.mem_cons_self ..)) (fun y hy => h2 y (List.mem_cons_of_mem _ hy)) h3 h4⟩

set_option maxRecDepth 100000 in
set_option maxHeartbeats 3200000 in
theorem l03new_any (r t : Nat) (b : BasketD) (w : World) (h : SrcAt w r t) (ht : t ≤ 1000000) (hb0 : 2 ≤ b.bars) (hb1 : b.bars ≤ 60) :
    Calls Try.prog 55 #[.pointer (some ⟨r, 0, none⟩), .agg #[.int .i64 b.bars, .int .i64 b.rise, .int .i64 b.fall, .int .i64 b.clear, .int .i64 b.near]] w fun e w' => ∃ A n c xs, e = .returned (.slice A n c) ∧ n ≤ 12 ∧ n ≤ c ∧ Strokes w' A n xs ∧ chain (b.bars - 1) 0 xs = true ∧ Drawn r w.heap.size w w' := by
  obtain ⟨i0, hi, hz0, hz1, hz2⟩ := info_parts Try.infoStroke2
  have hrl := h.lt
  have hB0 := BRow.new w b.bars b.rise b.fall b.clear b.near
  have hbl0 := below_a1 w (.cells #[.int .i64 b.bars, .int .i64 b.rise, .int .i64 b.fall, .int .i64 b.clear, .int .i64 b.near] 25)
  have hs0 := h.below hbl0
  go_enter Try.func55, Try.ntmps55
  go_wp2_with fail
  have hsz0 : (w.alloc (.cells #[.int .i64 b.bars, .int .i64 b.rise, .int .i64 b.fall, .int .i64 b.clear, .int .i64 b.near] 25)).heap.size = w.heap.size + 1 := by simp
  generalize w.alloc (.cells #[.int .i64 b.bars, .int .i64 b.rise, .int .i64 b.fall, .int .i64 b.clear, .int .i64 b.near] 25) = w0 at *
  have hzn : w.heap.size < w0.heap.size := hB0.lt
  have hze : w0.heap.size = w.heap.size + 1 := hsz0
  generalize hN : w.heap.size = N at *
  have hown : (w0.alloc (.cells #[] 39)).ownsRow (N + 1) 39 2 (.slice (some ⟨N + 1, 0, none⟩) 0 0) 0 [] := by
    have := World.ownsRow_lit (w := w0) (e := 39) (base := N + 1) (size := 2) #[] 0 (by omega) (by simp [maxLen]) (by simp)
    simpa [hze] using this
  have hble := below_a1 w0 (.cells #[] 39)
  have hse := hs0.below hble
  have hBe := hB0.below hble
  have hde : Drawn r N w (w0.alloc (.cells #[] 39)) := ((Drawn.refl r N w).below (hN ▸ hbl0) (by omega)).below hble (by omega)
  have hzE := hBe.lt
  generalize w0.alloc (.cells #[] 39) = w1 at *
  refine (pick_any r t 20 w1 hse (by omega) (by omega)).mono ?_
  rintro e w2 ⟨x1, rfl, l1, u1, _, hs2, hg2⟩
  replace u1 := u1 (by omega)
  have hown2 := owns_past hown hg2 (by omega)
  have hB2 := hBe.grown hg2 (fun e => by cases e; omega)
  have hd2 := hde.pick hg2 (by omega)
  have hz2' := hB2.lt
  have hp2 := Lib.hid (pick_any r (t + 2) 12 w2 hs2 (by omega) (by omega))
  clear hown hse hBe hde hs0 hB0 hbl0 hble
  go_wp2_with fail
  refine hp2.out.mono ?_
  rintro e w3 ⟨x2, rfl, l2, u2, _, hs3, hg3⟩
  replace u2 := u2 (by omega)
  have hown3 := owns_past hown2 hg3 (by omega)
  have hB3 := hB2.grown hg3 (fun e => by cases e; omega)
  have hd3 := hd2.pick hg3 (by omega)
  clear hown2 hs2 hB2 hd2 hp2
  go_wp2
  go_loopw [5, 6, 7] (fun v av kv wr => ∃ (L : List StrokeD) (k : Nat) (a : Int), kv = .int .i64 (k : Int) ∧ L.length + k ≤ 11 ∧ av = .int .i64 a ∧ 0 ≤ a ∧ a ≤ 20 + 8 * (L.length : Int) ∧ chain (b.bars - 1) 0 L = true ∧ (∀ s ∈ L, s.tick ≤ a) ∧ wr.ownsRow (N + 1) 39 2 v L.length (L.flatMap StrokeD.cells) ∧ SrcAt wr r (t + 4 + 4 * L.length) ∧ Drawn r N w wr ∧ BRow wr N b) (fun _ _ kv _ => (intOf kv).toNat)
  case atStart =>
    obtain ⟨k2, hk2⟩ : ∃ k : Nat, x2 = (k : Int) := ⟨x2.toNat, by omega⟩
    exact ⟨[], k2, x1, by rw [hk2], by simp; omega, rfl, l1, by simp; omega, rfl, (fun _ h => by cases h), hown3, hs3.mono (by simp), hd3, hB3⟩
  case round =>
    rename World => wr
    obtain ⟨L, k, a, rfl, hLk, rfl, ha0, ha1, hch, htk, hrow, hs, hd, hB⟩ := hrel
    have hLl : L.length ≤ 11 := by omega
    obtain ⟨hch', htk'⟩ := (⟨Lib.hid hch, Lib.hid htk⟩ : Hid _ ∧ Hid _)
    clear hch htk
    obtain ⟨c0, c1, c2, c3, c4⟩ := hB.cells
    have hzr := hB.lt
    by_cases hk : 0 < k
    · have hg : decide ((0 : Int) < (k : Int)) = true := decide_eq_true (by omega)
      have hm := Lib.hid (fun W => min_any b.bars 60 W)
      rw [show min b.bars 60 = b.bars by omega] at hm
      have hpk := Lib.hid (pick_any r (t + 4 + 4 * L.length) b.bars wr hs (by omega) (by omega))
      go_wp2_with fail
      refine (hm.out _).mono ?_
      rintro e w' ⟨rfl, rfl⟩
      go_wp2_with fail
      refine hpk.out.mono ?_
      rintro e w4 ⟨y, rfl, y0, y1, _, hs4, hg4⟩
      replace y1 := y1 (by omega)
      have hrow4 := owns_past hrow hg4 (by omega)
      have hB4 := hB.grown hg4 (fun e => by cases e; omega)
      have hd4 := hd.pick hg4 (by omega)
      have hz4 := hB4.lt
      clear hrow hs hd hB
      have h63 : L.length + 1 ≤ maxLen := by unfold maxLen; omega
      have hby : (L.length + 1) * 16 ≤ 140737488355328 := by omega
      have hba := below_a2 w4 (.cells #[.int .i64 y, .int .i64 a] 39) (.cells #[.int .i64 y, .int .i64 a] 39)
      have hroq := Lib.hid hrow4.lt
      have hln : Hid ((L ++ [⟨y, a⟩] : List StrokeD).length = L.length + 1) := Lib.hid (by simp)
      have hch2 : Hid (chain (b.bars - 1) 0 (L ++ [⟨y, a⟩]) = true) := Lib.hid (chain_snoc hch'.out ha0 htk'.out (isIn_iff.2 ⟨y0, by simp only; omega⟩) (by simp only; omega))
      have hfl : Hid ((L ++ [(⟨y, a⟩ : StrokeD)]).flatMap StrokeD.cells = L.flatMap StrokeD.cells ++ [.int .i64 y, .int .i64 a]) := Lib.hid (by simp [StrokeD.cells])
      generalize hpn : L.length = pn at *
      go_wp2_with (at_builtin; refine wpList_append_own _ rfl _ _ 27 rfl (N + 1) 39 i0 _ 2 16 Try.underlying27 hi hz0 hz1 hz2 rfl (by decide) _ _ _ rfl ((hrow4.alloc _).alloc _) ⟨w4.heap.size + 1, 0, none⟩ 1 1 [.int .i64 y, .int .i64 a] rfl rfl ?c1 ?c2 h63 hby ?c5 ?_)
      case c1 =>
        intro j u hj
        match j, hj with
        | 0, hj => cases hj; simp [Addr.add]
        | 1, hj => cases hj; simp [Addr.add]
        | j + 2, hj => simp at hj
      case c2 =>
        intro u hu
        simp only [List.mem_cons, List.not_mem_nil, or_false] at hu
        rcases hu with rfl | rfl <;> rfl
      case c5 =>
        simp
        omega
      intro v' w5 hown5 hgr5 hnil
      have hs5 := (hs4.below hba).grownO hgr5 (fun q hq => by have := (hroq.out q hq).1; omega)
      have hB5 := (hB4.below hba).grown hgr5 (fun e => by have := (hroq.out N e).1; omega)
      have hd5 := (hd4.below hba (by omega)).youngO hgr5 (by simp; omega) (fun q hq => by have := (hroq.out q hq).1; omega)
      have hrow5 : w5.ownsRow (N + 1) 39 2 v' (L ++ [⟨y, a⟩] : List StrokeD).length ((L ++ [⟨y, a⟩] : List StrokeD).flatMap StrokeD.cells) := by
        rw [hln.out, hfl.out]
        exact hown5
      have hz5 := hB5.lt
      have hp5 := Lib.hid (pick_any r (t + 4 + 4 * pn + 2) 8 w5 hs5 (by omega) (by omega))
      clear hown5 hgr5 hnil hba
      go_wp2_with fail
      refine hp5.out.mono ?_
      rintro e w6 ⟨z, rfl, z0, z1, _, hs6, hg6⟩
      replace z1 := z1 (by omega)
      have hma : IntKind.i64.wrap (a + z) = a + z := IntWalk.i64_in _ (by omega)
      have hrow6 := owns_past hrow5 hg6 (by omega)
      have hB6 := hB5.grown hg6 (fun e => by cases e; omega)
      have hd6 := hd5.pick hg6 (by omega)
      have hle : Hid (∀ s ∈ (L ++ [⟨y, a⟩] : List StrokeD), s.tick ≤ a + z) := Lib.hid (fun s hs => by
        rcases List.mem_append.1 hs with h | h
        · have := htk'.out s h
          omega
        · rw [List.mem_singleton] at h
          subst h
          simp only
          omega)
      have hs7 : Hid (SrcAt w6 r (t + 4 + 4 * (L ++ [⟨y, a⟩] : List StrokeD).length)) := Lib.hid (hs6.mono (by rw [hln.out]; omega))
      have hl7 : Hid ((L ++ [⟨y, a⟩] : List StrokeD).length + (k - 1) ≤ 11 ∧ a + z ≤ 20 + 8 * ((L ++ [⟨y, a⟩] : List StrokeD).length : Int)) := Lib.hid (by rw [hln.out]; omega)
      clear hs6
      go_wp2
      go_roundw
      case rel => exact ⟨L ++ [⟨y, a⟩], k - 1, a + z, by rw [Int.natCast_sub (by omega)]; rfl, hl7.out.1, rfl, by omega, hl7.out.2, hch2.out, hle.out, hrow6, hs7.out, hd6, hB6⟩
      case measure => simp [intOf]; omega
    · obtain rfl : k = 0 := by omega
      obtain ⟨A, c, rfl, hO⟩ := ORow.of_owns (cells := StrokeD.cells) (fun _ => rfl) hrow
      have hg : decide ((0 : Int) < ((0 : Nat) : Int)) = false := rfl
      have hcap := owns_cap hrow
      go_wp2
      go_ret
      subst hN
      exact ⟨A, _, c, L, rfl, by omega, hcap, hO.srow, hch'.out, hd⟩

set_option maxRecDepth 100000 in
set_option maxHeartbeats 1600000 in
theorem a2strokes_any (A : Option Addr) (n c : Nat) (xs : List Int) (b : BasketD) (w : World) (hn : n ≤ maxLen) (h : Bytes w A n xs) (hg : ∀ x ∈ xs, byteGood x) (hbl : 2 ≤ b.bars) (hbh : b.bars ≤ 60) :
    Calls Try.prog 12 #[.slice A n c, .agg #[.int .i64 b.bars, .int .i64 b.rise, .int .i64 b.fall, .int .i64 b.clear, .int .i64 b.near]] w fun e w' => ∃ A' n' c' ys, e = .returned (.slice A' n' c') ∧ n' ≤ 12 ∧ n' ≤ c' ∧ Strokes w' A' n' ys ∧ chain (b.bars - 1) 0 ys = true ∧ Below w.heap.size w w' := by
  have hB0 := BRow.new w b.bars b.rise b.fall b.clear b.near
  have hbl0 := below_a1 w (.cells #[.int .i64 b.bars, .int .i64 b.rise, .int .i64 b.fall, .int .i64 b.clear, .int .i64 b.near] 25)
  have hz0 := hB0.lt
  have hfr := Lib.hid (fun W (hW : Below (w.alloc (.cells #[.int .i64 b.bars, .int .i64 b.rise, .int .i64 b.fall, .int .i64 b.clear, .int .i64 b.near] 25)).heap.size (w.alloc (.cells #[.int .i64 b.bars, .int .i64 b.rise, .int .i64 b.fall, .int .i64 b.clear, .int .i64 b.near] 25)) W) => from_any A n c xs W hn ((h.below hbl0).below hW) hg)
  go_enter Try.func12, Try.ntmps12
  go_wp2_with fail
  generalize w.alloc (.cells #[.int .i64 b.bars, .int .i64 b.rise, .int .i64 b.fall, .int .i64 b.clear, .int .i64 b.near] 25) = w0 at *
  obtain ⟨c0, c1, c2, c3, c4⟩ := hB0.cells
  refine wp_region_held_drew (S := fun w' => Below w0.heap.size w0 w' ∧ w'.cell? ⟨w.heap.size, 0, none⟩ = some (.int .i64 b.bars) ∧ w'.cell? ⟨w.heap.size, 1, none⟩ = some (.int .i64 b.rise) ∧ w'.cell? ⟨w.heap.size, 2, none⟩ = some (.int .i64 b.fall) ∧ w'.cell? ⟨w.heap.size, 3, none⟩ = some (.int .i64 b.clear) ∧ w'.cell? ⟨w.heap.size, 4, none⟩ = some (.int .i64 b.near)) (by kernel_rfl) ?_ (fun hHeld => ?_)
  · exact ⟨(Below.refl _ _).drew, c0, c1, c2, c3, c4⟩
  refine wpAnyH_take (i := 0) (v := ?va0) rfl (by kernel_rfl) (by kernel_rfl) (by kernel_rfl) (fun _ _ _ h => h) (Or.inl ⟨rfl, ?ya0⟩) (by assumption) ?_
  case ya0 => (intro w hSw; (try dsimp only at hSw); go_simp; first | done | with_reducible rfl)
  simp only [List.getElem_toArray, List.getElem_cons_succ, List.getElem_cons_zero, Act.put, List.setIfInBounds_toArray, List.set_cons_zero, List.set_cons_succ]
  refine wpAnyH_take (i := 2) (v := ?va2) rfl (by kernel_rfl) (by kernel_rfl) (by kernel_rfl) (fun _ _ _ h => h) (Or.inl ⟨rfl, ?ya2⟩) (by assumption) ?_
  case ya2 => (intro w hSw; (try dsimp only at hSw); go_simp; first | done | with_reducible rfl)
  simp only [List.getElem_toArray, List.getElem_cons_succ, List.getElem_cons_zero, Act.put, List.setIfInBounds_toArray, List.set_cons_zero, List.set_cons_succ]
  refine wpAnyH_ready (rs := [1]) (by kernel_rfl) (by simp) ?_
  refine AllReadyH.cons rfl (fun K hK => ?_) AllReadyH.nil
  go_simp
  refine (hfr.out _ hHeld.1).mono ?_
  rintro e w1 ⟨rfl, hs1, hb1⟩
  go_wp2_with fail
  refine hK.out _ _ ?_ (fun hHeld => ?_)
  · exact kept5 (by assumption) hb1
  clear hK K
  try simp only [List.getElem_toArray, List.getElem_cons_succ, List.getElem_cons_zero, Act.put, List.setIfInBounds_toArray, List.set_cons_zero, List.set_cons_succ]
  refine wpAnyH_ready (rs := [3]) (by kernel_rfl) (by simp) ?_
  refine AllReadyH.cons rfl (fun K hK => ?_) AllReadyH.nil
  go_simp
  refine (l03new_any _ 0 b _ hs1 (by omega) hbl hbh).mono ?_
  rintro e w2 ⟨A', n', c', ys, rfl, hn', hcap', hS', hch', hd'⟩
  have hdz : w0.drew.heap.size = w0.heap.size := rfl
  have hb2 : Below w0.heap.size w0 w2 := hHeld.1.trans ⟨hd'.os, hd'.tape, hd'.output, hd'.size, fun k hk => hd'.block k (by have := hHeld.1.size; omega) (by omega)⟩
  go_wp2_with fail
  refine hK.out _ _ ?_ (fun hHeld => ?_)
  · exact ⟨hb2, cell_step c0 hb2, cell_step c1 hb2, cell_step c2 hb2, cell_step c3 hb2, cell_step c4 hb2⟩
  clear hK K
  try simp only [List.getElem_toArray, List.getElem_cons_succ, List.getElem_cons_zero, Act.put, List.setIfInBounds_toArray, List.set_cons_zero, List.set_cons_succ]
  refine wpAnyH_take (i := 4) (v := ?va4) rfl (by kernel_rfl) (by kernel_rfl) (by kernel_rfl) (fun _ _ _ h => h) (Or.inl ⟨rfl, ?ya4⟩) (by assumption) ?_
  case ya4 => (intro w hSw; (try dsimp only at hSw); go_simp; first | done | with_reducible rfl)
  simp only [List.getElem_toArray, List.getElem_cons_succ, List.getElem_cons_zero, Act.put, List.setIfInBounds_toArray, List.set_cons_zero, List.set_cons_succ]
  refine wpAnyH_done (by kernel_rfl) ?_ _
  go_wp2
  go_ret
  exact ⟨A', n', c', ys, rfl, hn', hcap', hS', hch', hbl0.trans (hb2.mono (Nat.le_of_lt hz0))⟩
end Go.Proofs.Ytndodlfmjdgpcaa
