/- Slices of Ribbon as lists: what the law's own helpers on them do, and how an argument is opened. -/
import Derived.Test.YtceedmejmmoepaaDoorRibbonD
import Derived.Test.YtceedmejmmoepaaDoorRows0
import Derived.Test.YtceedmejmmoepaaDoorOpen0
import Derived.Deep.RegionHeld3
namespace Go.Proofs.YtceedmejmmoepaaDoor
open Go.RowKit Go.ChangeShapes Go.WideShapes Go.Deep
set_option linter.unusedVariables false
set_option linter.unusedSimpArgs false

abbrev Ribbons (w : World) (A : Option Addr) (n : Nat) (ps : List RibbonD) : Prop := SRow 3 RibbonD.cells w A n ps

theorem ribbon_at {w : World} {A : Option Addr} {n k : Nat} {ps : List RibbonD} (h : Ribbons w A n ps) (hk : k < n) :
    ∃ b off x, A = some ⟨b, off, none⟩ ∧ b < w.heap.size ∧ Hid (ps[k]? = some x) ∧ w.cell? ⟨b, off + k * 3, none⟩ = some (.int .i64 x.spots) ∧ w.cell? ⟨b, off + k * 3 + 1, none⟩ = some (.int .i64 x.ink) ∧ w.cell? ⟨b, off + k * 3 + 2, none⟩ = some (.int .i64 x.takes) := by
  obtain ⟨b, off, x, e, hb, hx, hc⟩ := h.at_ hk
  exact ⟨b, off, x, e, hb, Lib.hid hx, hc 0 _ rfl, hc 1 _ rfl, hc 2 _ rfl⟩

theorem Tryd.infoRibbon : (Tryd.prog.info? 26).map (fun i => (i.zero, i.size, i.bytes)) = some (some (.agg #[.int .i64 0, .int .i64 0, .int .i64 0]), 3, 24) := by kernel_rfl

set_option maxHeartbeats 800000 in
theorem toRibbonS_any (A : Option Addr) (n c : Nat) (ps : List RibbonD) (w : World) (h : Ribbons w A n ps) (hn : n ≤ 1048576) :
    Calls Tryd.prog 14 #[.slice A n c] w fun e w' => ∃ g, e = .returned (.slice (some ⟨g, 0, none⟩) n n) ∧ w.heap.size ≤ g ∧ Ribbons w' (some ⟨g, 0, none⟩) n ps ∧ Below w.heap.size w w' := by
  obtain ⟨i0, hi, hz0, hz1, hz2⟩ := info_parts Tryd.infoRibbon
  have hmk := fun W => run_make_many (P := Tryd.prog) 36 26 i0 _ Tryd.underlying36 hi hz0 .i64 .i64 n (by rw [hz2]; omega) (by omega) W
  rw [hz1] at hmk
  go_enter Tryd.func14, Tryd.ntmps14
  go_wp2
  go_loopw [4] (fun i wr => ∃ k : Nat, k ≤ n ∧ i = .int .i64 k ∧ Below w.heap.size w wr ∧ Filled 3 RibbonD.cells wr w.heap.size 26 (n * 3) ps k) (fun i _ => n - (intOf i).toNat)
  case atStart => exact ⟨0, by omega, rfl, (Below.refl _ w).alloc (Nat.le_refl _) _, .start _ (made_row _ _ _ _)⟩
  case round =>
    obtain ⟨k, hk, rfl, hbw, hF⟩ := hrel
    by_cases hlt : k < n
    · obtain ⟨b, off, x, rfl, hb, hx, c0, c1, c2⟩ := ribbon_at (h.below hbw) hlt
      go_wp2_with (go_at_call 8; refine (toRibbon_any x _).mono ?_)
      rintro e w1 ⟨rfl, hb1⟩
      have hF1 := hF.below hb1 hF.lt
      obtain ⟨f, hrow1⟩ := hF1.row
      have d0 := hrow1.cell (i := k * 3) (by omega)
      have e0 := hrow1.frozen (k * 3)
      have d1 := hrow1.cell (i := k * 3 + 1) (by omega)
      have e1 := hrow1.frozen (k * 3 + 1)
      have d2 := hrow1.cell (i := k * 3 + 2) (by omega)
      have e2 := hrow1.frozen (k * 3 + 2)
      have hbw1 := hbw.trans (hb1.mono hbw.size)
      go_wp2
      go_roundw
      case rel => exact ⟨k + 1, by omega, by go_num, putRow_below (Nat.le_refl _) x.cells w1 (k * 3) hbw1, hF1.step hx.out (fun _ => rfl)⟩
      case measure => simp [intOf]; omega
    · obtain rfl : k = n := by omega
      have hres := Lib.hid (hF.done h.1 (fun _ => rfl))
      go_wp2
      go_ret
      exact ⟨_, rfl, Nat.le_refl _, hres.out, hbw⟩

def eqRibbons : List RibbonD → List RibbonD → Bool
  | [], [] => true
  | a :: as_, b :: bs => a.eqB b && eqRibbons as_ bs
  | _, _ => false
theorem eqRibbons_refl : ∀ ps : List RibbonD, eqRibbons ps ps = true
  | [] => rfl
  | p :: ps => by simp [eqRibbons, RibbonD.eqB_refl p, eqRibbons_refl ps]
theorem eqRibbons_length : ∀ {ps qs : List RibbonD}, eqRibbons ps qs = true → ps.length = qs.length
  | [], [], _ => rfl
  | [], _ :: _, h => by cases h
  | _ :: _, [], h => by cases h
  | a :: ps, b :: qs, h => by
    simp only [eqRibbons, Bool.and_eq_true] at h
    rw [List.length_cons, List.length_cons, eqRibbons_length h.2]
theorem eqRibbons_step {ps qs : List RibbonD} {k : Nat} {x y : RibbonD} (hx : ps[k]? = some x) (hy : qs[k]? = some y) (h : x.eqB y = true) : eqRibbons (ps.drop k) (qs.drop k) = eqRibbons (ps.drop (k + 1)) (qs.drop (k + 1)) := by
  obtain ⟨h1, rfl⟩ := List.getElem?_eq_some_iff.1 hx
  obtain ⟨h2, rfl⟩ := List.getElem?_eq_some_iff.1 hy
  rw [List.drop_eq_getElem_cons h1, List.drop_eq_getElem_cons h2]
  simp [eqRibbons, h]
theorem eqRibbons_stop {ps qs : List RibbonD} {k : Nat} {x y : RibbonD} (hx : ps[k]? = some x) (hy : qs[k]? = some y) (h : x.eqB y = false) : eqRibbons (ps.drop k) (qs.drop k) = false := by
  obtain ⟨h1, rfl⟩ := List.getElem?_eq_some_iff.1 hx
  obtain ⟨h2, rfl⟩ := List.getElem?_eq_some_iff.1 hy
  rw [List.drop_eq_getElem_cons h1, List.drop_eq_getElem_cons h2]
  simp [eqRibbons, h]
theorem eqRibbons_end {ps qs : List RibbonD} {k : Nat} (hp : ps.length = k) (hq : qs.length = k) : eqRibbons (ps.drop k) (qs.drop k) = true := by
  rw [List.drop_of_length_le (by omega), List.drop_of_length_le (by omega)]
  rfl
theorem eqRibbons_len {ps qs : List RibbonD} (h : ¬ ps.length = qs.length) : eqRibbons ps qs = false := by
  rw [Bool.eq_false_iff]
  exact fun he => h (eqRibbons_length he)

theorem keptRibbon {wr wx w1 : World} {b b' o0 o1 o2 o3 o4 o5 : Nat} {v0 v1 v2 v3 v4 v5 : Value} (h : Below wr.heap.size wr wx ∧ wx.cell? ⟨b, o0, none⟩ = some v0 ∧ wx.cell? ⟨b, o1, none⟩ = some v1 ∧ wx.cell? ⟨b, o2, none⟩ = some v2 ∧ wx.cell? ⟨b', o3, none⟩ = some v3 ∧ wx.cell? ⟨b', o4, none⟩ = some v4 ∧ wx.cell? ⟨b', o5, none⟩ = some v5)
    (hb : b < wr.heap.size) (hb' : b' < wr.heap.size) (h1 : Below wx.heap.size wx w1) :
    Below wr.heap.size wr w1 ∧ w1.cell? ⟨b, o0, none⟩ = some v0 ∧ w1.cell? ⟨b, o1, none⟩ = some v1 ∧ w1.cell? ⟨b, o2, none⟩ = some v2 ∧ w1.cell? ⟨b', o3, none⟩ = some v3 ∧ w1.cell? ⟨b', o4, none⟩ = some v4 ∧ w1.cell? ⟨b', o5, none⟩ = some v5 := by
  obtain ⟨hB, c0, c1, c2, c3, c4, c5⟩ := h
  have hz := hB.size
  exact ⟨hB.trans (h1.mono hz), (h1.cell (p := ⟨b, o0, none⟩) (by show b < _; omega)).trans c0, (h1.cell (p := ⟨b, o1, none⟩) (by show b < _; omega)).trans c1, (h1.cell (p := ⟨b, o2, none⟩) (by show b < _; omega)).trans c2, (h1.cell (p := ⟨b', o3, none⟩) (by show b' < _; omega)).trans c3, (h1.cell (p := ⟨b', o4, none⟩) (by show b' < _; omega)).trans c4, (h1.cell (p := ⟨b', o5, none⟩) (by show b' < _; omega)).trans c5⟩
set_option maxHeartbeats 1600000 in
theorem eqRibbonS_any (A B : Option Addr) (n m c d : Nat) (ps qs : List RibbonD) (w : World) (hA : Ribbons w A n ps) (hB : Ribbons w B m qs) (hn : n ≤ maxLen) (hm : m ≤ maxLen) :
    Calls Tryd.prog 17 #[.slice A n c, .slice B m d] w fun e w' => e = .returned (.bool (eqRibbons ps qs)) ∧ Below w.heap.size w w' := by
  unfold maxLen at hn hm
  by_cases hl : n = m
  · subst hl
    go_enter Tryd.func17, Tryd.ntmps17
    go_wp2
    go_loopw [5] (fun i wr => ∃ k : Nat, k ≤ n ∧ i = .int .i64 k ∧ Below w.heap.size w wr ∧ eqRibbons ps qs = eqRibbons (ps.drop k) (qs.drop k)) (fun i _ => n - (intOf i).toNat)
    case atStart => exact ⟨0, by omega, rfl, Below.refl _ _, rfl⟩
    case round =>
      obtain ⟨k, hk, rfl, hbw, he⟩ := hrel
      replace he := Lib.hid he
      by_cases hlt : k < n
      · obtain ⟨b, off, x, rfl, hb, hx, c0, c1, c2⟩ := ribbon_at (hA.below hbw) hlt
        obtain ⟨b', off', y, rfl, hb', hy, d0, d1, d2⟩ := ribbon_at (hB.below hbw) hlt
        have hk0 : (0 : Int) ≤ (k : Int) := Int.natCast_nonneg _
        have hk1 : (k : Int) < (n : Int) := by omega
        by_cases hq : x.eqB y = true
        · have hnext := Lib.hid (eqRibbons_step hx.out hy.out hq)
          have HQ := Lib.hid hq
          clear hq
          go_wp2_with fail
          go_region_held3 (fun w' => Below wr.heap.size wr w' ∧ w'.cell? ⟨b, off + k * 3, none⟩ = some (.int .i64 x.spots) ∧ w'.cell? ⟨b, off + k * 3 + 1, none⟩ = some (.int .i64 x.ink) ∧ w'.cell? ⟨b, off + k * 3 + 2, none⟩ = some (.int .i64 x.takes) ∧ w'.cell? ⟨b', off' + k * 3, none⟩ = some (.int .i64 y.spots) ∧ w'.cell? ⟨b', off' + k * 3 + 1, none⟩ = some (.int .i64 y.ink) ∧ w'.cell? ⟨b', off' + k * 3 + 2, none⟩ = some (.int .i64 y.takes)) (first | exact ⟨(Below.refl _ _).drew, c0, c1, c2, d0, d1, d2⟩ | (exact keptRibbon (by assumption) hb hb' hb1)) (first | (go_at_call 40; refine (eqRibbon_is HQ.out _).mono ?_; rintro e w1 ⟨rfl, hb1⟩))
          have hw1 : Below w.heap.size w w1 := hbw.trans (((Below.refl _ wr).drew.trans hb1).mono hbw.size)
          clear hb1 c0 c1 c2 d0 d1 d2
          go_wp2
          go_roundw
          case rel => exact ⟨k + 1, by omega, by go_num, hw1, he.out.trans hnext.out⟩
          case measure => simp [intOf]; omega
        · have hq' : x.eqB y = false := by simpa using hq
          have hres := Lib.hid (eqRibbons_stop hx.out hy.out hq')
          have HQ := Lib.hid hq'
          clear hq hq'
          go_wp2_with fail
          go_region_held3 (fun w' => Below wr.heap.size wr w' ∧ w'.cell? ⟨b, off + k * 3, none⟩ = some (.int .i64 x.spots) ∧ w'.cell? ⟨b, off + k * 3 + 1, none⟩ = some (.int .i64 x.ink) ∧ w'.cell? ⟨b, off + k * 3 + 2, none⟩ = some (.int .i64 x.takes) ∧ w'.cell? ⟨b', off' + k * 3, none⟩ = some (.int .i64 y.spots) ∧ w'.cell? ⟨b', off' + k * 3 + 1, none⟩ = some (.int .i64 y.ink) ∧ w'.cell? ⟨b', off' + k * 3 + 2, none⟩ = some (.int .i64 y.takes)) (first | exact ⟨(Below.refl _ _).drew, c0, c1, c2, d0, d1, d2⟩ | (exact keptRibbon (by assumption) hb hb' hb1)) (first | (go_at_call 40; refine (eqRibbon_is HQ.out _).mono ?_; rintro e w1 ⟨rfl, hb1⟩))
          have hw1 : Below w.heap.size w w1 := hbw.trans (((Below.refl _ wr).drew.trans hb1).mono hbw.size)
          clear hb1 c0 c1 c2 d0 d1 d2
          go_wp2
          go_ret
          exact ⟨ret_bo (hres.out ▸ he.out.symm), hw1⟩
      · obtain rfl : k = n := by omega
        have hres := Lib.hid (eqRibbons_end hA.1 hB.1)
        go_wp2
        go_ret
        exact ⟨ret_bo (hres.out ▸ he.out.symm), hbw⟩
  · have hl' : ((n : Int) == (m : Int)) = false := beq_eq_false_iff_ne.2 (by omega)
    have hres := Lib.hid (eqRibbons_len (ps := ps) (qs := qs) (by rw [hA.1, hB.1]; exact hl))
    clear hl
    go_enter Tryd.func17, Tryd.ntmps17
    go_wp2
    go_ret
    exact ⟨ret_bo hres.out.symm, Below.refl _ _⟩

theorem szRibbonS_any (A : Option Addr) (n c : Nat) (l : Int) (w : World) (h0 : 0 ≤ l) (h1 : l ≤ 1048576) (hn : n ≤ maxLen) :
    Calls Tryd.prog 12 #[.slice A n c, .int .i64 l] w fun e w' => e = .returned (.int .i64 (if l - n < 0 then -1 else l - n)) ∧ w = w' := by
  unfold maxLen at hn
  by_cases hc : l - n < 0
  · rw [if_pos hc]
    go_enter Tryd.func12, Tryd.ntmps12
    go_wp2
    go_ret
    exact ⟨rfl, rfl⟩
  · rw [if_neg hc]
    go_enter Tryd.func12, Tryd.ntmps12
    go_wp2
    go_ret
    exact ⟨rfl, rfl⟩
theorem szRibbonS_big (A : Option Addr) (n c : Nat) (l : Int) (w : World) (h0 : 0 ≤ l) (h1 : l ≤ 1048576) (hn : n ≤ maxLen) (h : l - n < 0) :
    Calls Tryd.prog 12 #[.slice A n c, .int .i64 l] w fun e w' => e = .returned (.int .i64 (-1)) ∧ w = w' := by
  have := szRibbonS_any A n c l w h0 h1 hn
  rwa [if_pos h] at this
theorem szRibbonS_fits (A : Option Addr) (n c : Nat) (l : Int) (w : World) (h0 : 0 ≤ l) (h1 : l ≤ 1048576) (hn : n ≤ maxLen) (h : ¬ l - n < 0) :
    Calls Tryd.prog 12 #[.slice A n c, .int .i64 l] w fun e w' => e = .returned (.int .i64 (l - n)) ∧ w = w' := by
  have := szRibbonS_any A n c l w h0 h1 hn
  rwa [if_neg h] at this

set_option maxRecDepth 100000 in
theorem open_ribbons {H : Type} {enc : TypeId × Value → H} {w : World} {base : Nat} {spare : Nat → Bool} {held : Bool} {r : Reach} {b0 : Nat} {v : Value} {d : DataW H} {p : List MemPlace}
    (hv : Value.okWide Tryd.prog w r b0 31 v) (h : DataW.Trod enc Tryd.prog w base spare held 31 v d p) :
    ∃ A n c xs, v = .slice A n c ∧ (n ≤ maxLen ∧ Ribbons w A n xs ∧ ∀ x ∈ xs, x.good) := by
  obtain ⟨A, n, c, rfl⟩ := okWide_slice Tryd.underlying31 hv
  obtain ⟨fuel, hf⟩ := h
  obtain ⟨h1, h2, h3⟩ := open_cells Tryd.underlying31 Tryd.underlying23 (by kernel_rfl) (by kernel_rfl) (by simpa [Value.cells] using hf)
  obtain ⟨xs, hx, hg⟩ := open_list 3 RibbonD.cells RibbonD.good (fun _ => rfl) (by omega) (fun hn => by
    obtain ⟨a, ha, hi⟩ := h3 hn
    refine ⟨a, ha, fun i hlt => ?_⟩
    obtain ⟨_, v0, y0, c0, t0⟩ := hi i hlt 0 _ rfl
    obtain ⟨_, v1, y1, c1, t1⟩ := hi i hlt 1 _ rfl
    obtain ⟨_, v2, y2, c2, t2⟩ := hi i hlt 2 _ rfl
    obtain ⟨n0, e0, _, w0⟩ := DataW.trod_int Tryd.underlying2 t0
    obtain ⟨n1, e1, _, w1⟩ := DataW.trod_int Tryd.underlying2 t1
    obtain ⟨n2, e2, _, w2⟩ := DataW.trod_int Tryd.underlying2 t2
    simp at e0 e1 e2
    subst e0 e1 e2
    refine ⟨⟨n0, n1, n2⟩, ⟨w0, w1, w2⟩, fun j u hu => ?_⟩
    match j, hu with
    | 0, hu => cases hu; exact c0
    | 1, hu => cases hu; exact c1
    | 2, hu => cases hu; exact c2
    | j + 3, hu => simp [RibbonD.cells] at hu)
  exact ⟨A, n, c, xs, rfl, Nat.le_trans h1 h2, hx, hg⟩
end Go.Proofs.YtceedmejmmoepaaDoor
