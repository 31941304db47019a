/- Slices of Over as lists: what the law's own helpers on them do, and how an argument is opened. -/
import Derived.Test.YtomnnhmhmehdjaaOverD
import Derived.Test.YtomnnhmhmehdjaaRows0
import Derived.Test.YtomnnhmhmehdjaaOpen0
import Derived.Deep.RegionHeld3
namespace Go.Proofs.Ytomnnhmhmehdjaa
open Go.RowKit Go.ChangeShapes Go.WideShapes Go.Deep
set_option linter.unusedVariables false
set_option linter.unusedSimpArgs false

abbrev Overs (w : World) (A : Option Addr) (n : Nat) (ps : List OverD) : Prop := SRow 3 OverD.cells w A n ps

theorem over_at {w : World} {A : Option Addr} {n k : Nat} {ps : List OverD} (h : Overs w A n ps) (hk : k < n) :
    ∃ b off x, A = some ⟨b, off, none⟩ ∧ b < w.heap.size ∧ Hid (ps[k]? = some x) ∧ w.cell? ⟨b, off + k * 3, none⟩ = some (.string x.under) ∧ w.cell? ⟨b, off + k * 3 + 1, none⟩ = some (.string x.top) ∧ w.cell? ⟨b, off + k * 3 + 2, none⟩ = some (.string x.seen) := by
  obtain ⟨b, off, x, e, hb, hx, hc⟩ := h.at_ hk
  exact ⟨b, off, x, e, hb, Lib.hid hx, hc 0 _ rfl, hc 1 _ rfl, hc 2 _ rfl⟩

theorem Try.infoOver : (Try.prog.info? 59).map (fun i => (i.zero, i.size, i.bytes)) = some (some (.agg #[.string ⟨#[]⟩, .string ⟨#[]⟩, .string ⟨#[]⟩]), 3, 48) := by kernel_rfl

set_option maxHeartbeats 800000 in
theorem toOverS_any (A : Option Addr) (n c : Nat) (ps : List OverD) (w : World) (h : Overs w A n ps) (hn : n ≤ 1048576) :
    Calls Try.prog 17 #[.slice A n c] w fun e w' => ∃ g, e = .returned (.slice (some ⟨g, 0, none⟩) n n) ∧ w.heap.size ≤ g ∧ Overs w' (some ⟨g, 0, none⟩) n ps ∧ Below w.heap.size w w' := by
  obtain ⟨i0, hi, hz0, hz1, hz2⟩ := info_parts Try.infoOver
  have hmk := fun W => run_make_many (P := Try.prog) 25 59 i0 _ Try.underlying25 hi hz0 .i64 .i64 n (by rw [hz2]; omega) (by omega) W
  rw [hz1] at hmk
  go_enter Try.func17, Try.ntmps17
  go_wp2
  go_loopw [4] (fun i wr => ∃ k : Nat, k ≤ n ∧ i = .int .i64 k ∧ Below w.heap.size w wr ∧ Filled 3 OverD.cells wr w.heap.size 59 (n * 3) ps k) (fun i _ => n - (intOf i).toNat)
  case atStart => exact ⟨0, by omega, rfl, (Below.refl _ w).alloc (Nat.le_refl _) _, .start _ (made_row _ _ _ _)⟩
  case round =>
    obtain ⟨k, hk, rfl, hbw, hF⟩ := hrel
    by_cases hlt : k < n
    · obtain ⟨b, off, x, rfl, hb, hx, c0, c1, c2⟩ := over_at (h.below hbw) hlt
      go_wp2_with (go_at_call 45; refine (toOver_any x _).mono ?_)
      rintro e w1 ⟨rfl, hb1⟩
      have hF1 := hF.below hb1 hF.lt
      obtain ⟨f, hrow1⟩ := hF1.row
      have d0 := hrow1.cell (i := k * 3) (by omega)
      have e0 := hrow1.frozen (k * 3)
      have d1 := hrow1.cell (i := k * 3 + 1) (by omega)
      have e1 := hrow1.frozen (k * 3 + 1)
      have d2 := hrow1.cell (i := k * 3 + 2) (by omega)
      have e2 := hrow1.frozen (k * 3 + 2)
      have hbw1 := hbw.trans (hb1.mono hbw.size)
      go_wp2
      go_roundw
      case rel => exact ⟨k + 1, by omega, by go_num, putRow_below (Nat.le_refl _) x.cells w1 (k * 3) hbw1, hF1.step hx.out (fun _ => rfl)⟩
      case measure => simp [intOf]; omega
    · obtain rfl : k = n := by omega
      have hres := Lib.hid (hF.done h.1 (fun _ => rfl))
      go_wp2
      go_ret
      exact ⟨_, rfl, Nat.le_refl _, hres.out, hbw⟩

def eqOvers : List OverD → List OverD → Bool
  | [], [] => true
  | a :: as_, b :: bs => a.eqB b && eqOvers as_ bs
  | _, _ => false
theorem eqOvers_refl : ∀ ps : List OverD, eqOvers ps ps = true
  | [] => rfl
  | p :: ps => by simp [eqOvers, OverD.eqB_refl p, eqOvers_refl ps]
theorem eqOvers_length : ∀ {ps qs : List OverD}, eqOvers ps qs = true → ps.length = qs.length
  | [], [], _ => rfl
  | [], _ :: _, h => by cases h
  | _ :: _, [], h => by cases h
  | a :: ps, b :: qs, h => by
    simp only [eqOvers, Bool.and_eq_true] at h
    rw [List.length_cons, List.length_cons, eqOvers_length h.2]
theorem eqOvers_step {ps qs : List OverD} {k : Nat} {x y : OverD} (hx : ps[k]? = some x) (hy : qs[k]? = some y) (h : x.eqB y = true) : eqOvers (ps.drop k) (qs.drop k) = eqOvers (ps.drop (k + 1)) (qs.drop (k + 1)) := by
  obtain ⟨h1, rfl⟩ := List.getElem?_eq_some_iff.1 hx
  obtain ⟨h2, rfl⟩ := List.getElem?_eq_some_iff.1 hy
  rw [List.drop_eq_getElem_cons h1, List.drop_eq_getElem_cons h2]
  simp [eqOvers, h]
theorem eqOvers_stop {ps qs : List OverD} {k : Nat} {x y : OverD} (hx : ps[k]? = some x) (hy : qs[k]? = some y) (h : x.eqB y = false) : eqOvers (ps.drop k) (qs.drop k) = false := by
  obtain ⟨h1, rfl⟩ := List.getElem?_eq_some_iff.1 hx
  obtain ⟨h2, rfl⟩ := List.getElem?_eq_some_iff.1 hy
  rw [List.drop_eq_getElem_cons h1, List.drop_eq_getElem_cons h2]
  simp [eqOvers, h]
theorem eqOvers_end {ps qs : List OverD} {k : Nat} (hp : ps.length = k) (hq : qs.length = k) : eqOvers (ps.drop k) (qs.drop k) = true := by
  rw [List.drop_of_length_le (by omega), List.drop_of_length_le (by omega)]
  rfl
theorem eqOvers_len {ps qs : List OverD} (h : ¬ ps.length = qs.length) : eqOvers ps qs = false := by
  rw [Bool.eq_false_iff]
  exact fun he => h (eqOvers_length he)

theorem keptOver {wr wx w1 : World} {b b' o0 o1 o2 o3 o4 o5 : Nat} {v0 v1 v2 v3 v4 v5 : Value} (h : Below wr.heap.size wr wx ∧ wx.cell? ⟨b, o0, none⟩ = some v0 ∧ wx.cell? ⟨b, o1, none⟩ = some v1 ∧ wx.cell? ⟨b, o2, none⟩ = some v2 ∧ wx.cell? ⟨b', o3, none⟩ = some v3 ∧ wx.cell? ⟨b', o4, none⟩ = some v4 ∧ wx.cell? ⟨b', o5, none⟩ = some v5)
    (hb : b < wr.heap.size) (hb' : b' < wr.heap.size) (h1 : Below wx.heap.size wx w1) :
    Below wr.heap.size wr w1 ∧ w1.cell? ⟨b, o0, none⟩ = some v0 ∧ w1.cell? ⟨b, o1, none⟩ = some v1 ∧ w1.cell? ⟨b, o2, none⟩ = some v2 ∧ w1.cell? ⟨b', o3, none⟩ = some v3 ∧ w1.cell? ⟨b', o4, none⟩ = some v4 ∧ w1.cell? ⟨b', o5, none⟩ = some v5 := by
  obtain ⟨hB, c0, c1, c2, c3, c4, c5⟩ := h
  have hz := hB.size
  exact ⟨hB.trans (h1.mono hz), (h1.cell (p := ⟨b, o0, none⟩) (by show b < _; omega)).trans c0, (h1.cell (p := ⟨b, o1, none⟩) (by show b < _; omega)).trans c1, (h1.cell (p := ⟨b, o2, none⟩) (by show b < _; omega)).trans c2, (h1.cell (p := ⟨b', o3, none⟩) (by show b' < _; omega)).trans c3, (h1.cell (p := ⟨b', o4, none⟩) (by show b' < _; omega)).trans c4, (h1.cell (p := ⟨b', o5, none⟩) (by show b' < _; omega)).trans c5⟩
set_option maxHeartbeats 1600000 in
theorem eqOverS_any (A B : Option Addr) (n m c d : Nat) (ps qs : List OverD) (w : World) (hA : Overs w A n ps) (hB : Overs w B m qs) (hn : n ≤ maxLen) (hm : m ≤ maxLen) :
    Calls Try.prog 19 #[.slice A n c, .slice B m d] w fun e w' => e = .returned (.bool (eqOvers ps qs)) ∧ Below w.heap.size w w' := by
  unfold maxLen at hn hm
  by_cases hl : n = m
  · subst hl
    go_enter Try.func19, Try.ntmps19
    go_wp2
    go_loopw [5] (fun i wr => ∃ k : Nat, k ≤ n ∧ i = .int .i64 k ∧ Below w.heap.size w wr ∧ eqOvers ps qs = eqOvers (ps.drop k) (qs.drop k)) (fun i _ => n - (intOf i).toNat)
    case atStart => exact ⟨0, by omega, rfl, Below.refl _ _, rfl⟩
    case round =>
      obtain ⟨k, hk, rfl, hbw, he⟩ := hrel
      replace he := Lib.hid he
      by_cases hlt : k < n
      · obtain ⟨b, off, x, rfl, hb, hx, c0, c1, c2⟩ := over_at (hA.below hbw) hlt
        obtain ⟨b', off', y, rfl, hb', hy, d0, d1, d2⟩ := over_at (hB.below hbw) hlt
        have hk0 : (0 : Int) ≤ (k : Int) := Int.natCast_nonneg _
        have hk1 : (k : Int) < (n : Int) := by omega
        by_cases hq : x.eqB y = true
        · have hnext := Lib.hid (eqOvers_step hx.out hy.out hq)
          have HQ := Lib.hid hq
          clear hq
          go_wp2_with fail
          go_region_held3 (fun w' => Below wr.heap.size wr w' ∧ w'.cell? ⟨b, off + k * 3, none⟩ = some (.string x.under) ∧ w'.cell? ⟨b, off + k * 3 + 1, none⟩ = some (.string x.top) ∧ w'.cell? ⟨b, off + k * 3 + 2, none⟩ = some (.string x.seen) ∧ w'.cell? ⟨b', off' + k * 3, none⟩ = some (.string y.under) ∧ w'.cell? ⟨b', off' + k * 3 + 1, none⟩ = some (.string y.top) ∧ w'.cell? ⟨b', off' + k * 3 + 2, none⟩ = some (.string y.seen)) (first | exact ⟨(Below.refl _ _).drew, c0, c1, c2, d0, d1, d2⟩ | (exact keptOver (by assumption) hb hb' hb1)) (first | (go_at_call 49; refine (eqOver_is HQ.out _).mono ?_; rintro e w1 ⟨rfl, hb1⟩))
          have hw1 : Below w.heap.size w w1 := hbw.trans (((Below.refl _ wr).drew.trans hb1).mono hbw.size)
          clear hb1 c0 c1 c2 d0 d1 d2
          go_wp2
          go_roundw
          case rel => exact ⟨k + 1, by omega, by go_num, hw1, he.out.trans hnext.out⟩
          case measure => simp [intOf]; omega
        · have hq' : x.eqB y = false := by simpa using hq
          have hres := Lib.hid (eqOvers_stop hx.out hy.out hq')
          have HQ := Lib.hid hq'
          clear hq hq'
          go_wp2_with fail
          go_region_held3 (fun w' => Below wr.heap.size wr w' ∧ w'.cell? ⟨b, off + k * 3, none⟩ = some (.string x.under) ∧ w'.cell? ⟨b, off + k * 3 + 1, none⟩ = some (.string x.top) ∧ w'.cell? ⟨b, off + k * 3 + 2, none⟩ = some (.string x.seen) ∧ w'.cell? ⟨b', off' + k * 3, none⟩ = some (.string y.under) ∧ w'.cell? ⟨b', off' + k * 3 + 1, none⟩ = some (.string y.top) ∧ w'.cell? ⟨b', off' + k * 3 + 2, none⟩ = some (.string y.seen)) (first | exact ⟨(Below.refl _ _).drew, c0, c1, c2, d0, d1, d2⟩ | (exact keptOver (by assumption) hb hb' hb1)) (first | (go_at_call 49; refine (eqOver_is HQ.out _).mono ?_; rintro e w1 ⟨rfl, hb1⟩))
          have hw1 : Below w.heap.size w w1 := hbw.trans (((Below.refl _ wr).drew.trans hb1).mono hbw.size)
          clear hb1 c0 c1 c2 d0 d1 d2
          go_wp2
          go_ret
          exact ⟨ret_bo (hres.out ▸ he.out.symm), hw1⟩
      · obtain rfl : k = n := by omega
        have hres := Lib.hid (eqOvers_end hA.1 hB.1)
        go_wp2
        go_ret
        exact ⟨ret_bo (hres.out ▸ he.out.symm), hbw⟩
  · have hl' : ((n : Int) == (m : Int)) = false := beq_eq_false_iff_ne.2 (by omega)
    have hres := Lib.hid (eqOvers_len (ps := ps) (qs := qs) (by rw [hA.1, hB.1]; exact hl))
    clear hl
    go_enter Try.func19, Try.ntmps19
    go_wp2
    go_ret
    exact ⟨ret_bo hres.out.symm, Below.refl _ _⟩

/-- What szS hands back: less than nothing, or all is small. -/
def szOverOut (l : Int) (n : Nat) (ps : List OverD) (w : World) (e : Ending) (w' : World) : Prop :=
  ∃ v : Int, e = .returned (.int .i64 v) ∧ -1 ≤ v ∧ v ≤ l ∧ (0 ≤ v → (n : Int) ≤ l ∧ ∀ x ∈ ps, x.small) ∧ Below w.heap.size w w'
set_option maxHeartbeats 800000 in
theorem szOverS_any (A : Option Addr) (n c : Nat) (l : Int) (ps : List OverD) (w : World) (h : Overs w A n ps) (hg : ∀ x ∈ ps, x.good) (h0 : 0 ≤ l) (h1 : l ≤ 1048576) (hn : n ≤ maxLen) :
    Calls Try.prog 15 #[.slice A n c, .int .i64 l] w (szOverOut l n ps w) := by
  unfold maxLen at hn
  by_cases hc : l - n < 0
  · go_enter Try.func15, Try.ntmps15
    go_wp2
    go_ret
    exact ⟨-1, rfl, by omega, by omega, fun h => absurd h (by omega), Below.refl _ _⟩
  · go_enter Try.func15, Try.ntmps15
    go_wp2
    go_loopw [1, 5] (fun left i wr => ∃ (k : Nat) (v : Int), k ≤ n ∧ i = .int .i64 k ∧ left = .int .i64 v ∧ 0 ≤ v ∧ v ≤ l ∧ (∀ j x, j < k → ps[j]? = some x → x.small) ∧ Below w.heap.size w wr) (fun _ i _ => n - (intOf i).toNat)
    case atStart => exact ⟨0, l - n, by omega, rfl, rfl, by omega, by omega, fun j x hj => absurd hj (by omega), Below.refl _ _⟩
    case round =>
      obtain ⟨k, v, hk, rfl, rfl, hv0, hv1, hs, hbw⟩ := hrel
      replace hs := Lib.hid hs
      by_cases hlt : k < n
      · obtain ⟨b, off, x, rfl, hb, hx, c0, c1, c2⟩ := over_at (h.below hbw) hlt
        have hgx := hg x (List.mem_of_getElem? hx.out)
        obtain ⟨q0, q1⟩ := szOverI_le v x hv0
        have q2 := Lib.hid (szOverI_small v x (by omega))
        obtain ⟨u, hu⟩ : ∃ u, szOverI v x = u := ⟨_, rfl⟩
        have hcall := Lib.hid (szOver_any x v wr hv0 (by omega) hgx)
        rw [hu] at q0 q1 q2 hcall
        clear hu hgx
        by_cases hneg : u < 0
        · go_wp2_with (go_at_call 43; refine (hcall.out).mono ?_; rintro e w1 ⟨rfl, hb1⟩)
          go_ret
          exact ⟨-1, rfl, by omega, by omega, fun h => absurd h (by omega), hbw.trans (hb1.mono hbw.size)⟩
        · have hnext : Hid (∀ j y, j < k + 1 → ps[j]? = some y → y.small) := Lib.hid fun j y hj hy => by
            rcases Nat.lt_or_ge j k with h2 | h2
            · exact hs.out j y h2 hy
            · obtain rfl : j = k := by omega
              have h3 := hx.out
              rw [hy] at h3
              cases h3
              exact q2.out (by omega)
          go_wp2_with (go_at_call 43; refine (hcall.out).mono ?_; rintro e w1 ⟨rfl, hb1⟩)
          have hbw1 := hbw.trans (hb1.mono hbw.size)
          go_roundw
          case rel => exact ⟨k + 1, u, by omega, by go_num, rfl, by omega, by omega, hnext.out, hbw1⟩
          case measure => simp [intOf]; omega
      · obtain rfl : k = n := by omega
        have hall : Hid (∀ x ∈ ps, x.small) := Lib.hid fun x hx => by
          obtain ⟨j, hj, rfl⟩ := List.getElem_of_mem hx
          exact hs.out j _ (by rw [← h.1]; exact hj) (List.getElem?_eq_getElem hj)
        go_wp2
        go_ret
        exact ⟨v, rfl, by omega, by omega, fun _ => ⟨by omega, hall.out⟩, hbw⟩

set_option maxRecDepth 100000 in
theorem open_overs {H : Type} {enc : TypeId × Value → H} {w : World} {base : Nat} {spare : Nat → Bool} {held : Bool} {r : Reach} {b0 : Nat} {v : Value} {d : DataW H} {p : List MemPlace}
    (hv : Value.okWide Try.prog w r b0 22 v) (h : DataW.Trod enc Try.prog w base spare held 22 v d p) :
    ∃ A n c xs, v = .slice A n c ∧ (n ≤ maxLen ∧ Overs w A n xs ∧ ∀ x ∈ xs, x.good) := by
  obtain ⟨A, n, c, rfl⟩ := okWide_slice Try.underlying22 hv
  obtain ⟨fuel, hf⟩ := h
  obtain ⟨h1, h2, h3⟩ := open_cells Try.underlying22 Try.underlying56 (by kernel_rfl) (by kernel_rfl) (by simpa [Value.cells] using hf)
  obtain ⟨xs, hx, hg⟩ := open_list 3 OverD.cells OverD.good (fun _ => rfl) (by omega) (fun hn => by
    obtain ⟨a, ha, hi⟩ := h3 hn
    refine ⟨a, ha, fun i hlt => ?_⟩
    obtain ⟨_, v0, y0, c0, t0⟩ := hi i hlt 0 _ rfl
    obtain ⟨_, v1, y1, c1, t1⟩ := hi i hlt 1 _ rfl
    obtain ⟨_, v2, y2, c2, t2⟩ := hi i hlt 2 _ rfl
    obtain ⟨n0, e0, _, w0⟩ := DataW.trod_string Try.underlying9 t0
    obtain ⟨n1, e1, _, w1⟩ := DataW.trod_string Try.underlying9 t1
    obtain ⟨n2, e2, _, w2⟩ := DataW.trod_string Try.underlying9 t2
    simp at e0 e1 e2
    subst e0 e1 e2
    refine ⟨⟨n0, n1, n2⟩, ⟨w0, w1, w2⟩, fun j u hu => ?_⟩
    match j, hu with
    | 0, hu => cases hu; exact c0
    | 1, hu => cases hu; exact c1
    | 2, hu => cases hu; exact c2
    | j + 3, hu => simp [OverD.cells] at hu)
  exact ⟨A, n, c, xs, rfl, Nat.le_trans h1 h2, hx, hg⟩
end Go.Proofs.Ytomnnhmhmehdjaa
