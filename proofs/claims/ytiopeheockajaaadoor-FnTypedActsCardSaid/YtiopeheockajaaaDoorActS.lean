/- Slices of Act as lists: what the law's own helpers on them do, and how an argument is opened. -/
import Derived.Test.YtiopeheockajaaaDoorActD
import Derived.Test.YtiopeheockajaaaDoorRows0
import Derived.Test.YtiopeheockajaaaDoorOpen0
import Derived.Deep.RegionHeld3
namespace Go.Proofs.YtiopeheockajaaaDoor
open Go.RowKit Go.ChangeShapes Go.WideShapes Go.Deep
set_option linter.unusedVariables false
set_option linter.unusedSimpArgs false

abbrev Acts (w : World) (A : Option Addr) (n : Nat) (ps : List ActD) : Prop := SRow 2 ActD.cells w A n ps

theorem act_at {w : World} {A : Option Addr} {n k : Nat} {ps : List ActD} (h : Acts w A n ps) (hk : k < n) :
    ∃ b off x, A = some ⟨b, off, none⟩ ∧ b < w.heap.size ∧ Hid (ps[k]? = some x) ∧ w.cell? ⟨b, off + k * 2, none⟩ = some (.int .i64 x.kind) ∧ w.cell? ⟨b, off + k * 2 + 1, none⟩ = some (.string x.letter) := by
  obtain ⟨b, off, x, e, hb, hx, hc⟩ := h.at_ hk
  exact ⟨b, off, x, e, hb, Lib.hid hx, hc 0 _ rfl, hc 1 _ rfl⟩

theorem Tryd.infoAct : (Tryd.prog.info? 48).map (fun i => (i.zero, i.size, i.bytes)) = some (some (.agg #[.int .i64 0, .string ⟨#[]⟩]), 2, 24) := by kernel_rfl

def eqActs : List ActD → List ActD → Bool
  | [], [] => true
  | a :: as_, b :: bs => a.eqB b && eqActs as_ bs
  | _, _ => false
theorem eqActs_refl : ∀ ps : List ActD, eqActs ps ps = true
  | [] => rfl
  | p :: ps => by simp [eqActs, ActD.eqB_refl p, eqActs_refl ps]
theorem eqActs_length : ∀ {ps qs : List ActD}, eqActs ps qs = true → ps.length = qs.length
  | [], [], _ => rfl
  | [], _ :: _, h => by cases h
  | _ :: _, [], h => by cases h
  | a :: ps, b :: qs, h => by
    simp only [eqActs, Bool.and_eq_true] at h
    rw [List.length_cons, List.length_cons, eqActs_length h.2]
theorem eqActs_step {ps qs : List ActD} {k : Nat} {x y : ActD} (hx : ps[k]? = some x) (hy : qs[k]? = some y) (h : x.eqB y = true) : eqActs (ps.drop k) (qs.drop k) = eqActs (ps.drop (k + 1)) (qs.drop (k + 1)) := by
  obtain ⟨h1, rfl⟩ := List.getElem?_eq_some_iff.1 hx
  obtain ⟨h2, rfl⟩ := List.getElem?_eq_some_iff.1 hy
  rw [List.drop_eq_getElem_cons h1, List.drop_eq_getElem_cons h2]
  simp [eqActs, h]
theorem eqActs_stop {ps qs : List ActD} {k : Nat} {x y : ActD} (hx : ps[k]? = some x) (hy : qs[k]? = some y) (h : x.eqB y = false) : eqActs (ps.drop k) (qs.drop k) = false := by
  obtain ⟨h1, rfl⟩ := List.getElem?_eq_some_iff.1 hx
  obtain ⟨h2, rfl⟩ := List.getElem?_eq_some_iff.1 hy
  rw [List.drop_eq_getElem_cons h1, List.drop_eq_getElem_cons h2]
  simp [eqActs, h]
theorem eqActs_end {ps qs : List ActD} {k : Nat} (hp : ps.length = k) (hq : qs.length = k) : eqActs (ps.drop k) (qs.drop k) = true := by
  rw [List.drop_of_length_le (by omega), List.drop_of_length_le (by omega)]
  rfl
theorem eqActs_len {ps qs : List ActD} (h : ¬ ps.length = qs.length) : eqActs ps qs = false := by
  rw [Bool.eq_false_iff]
  exact fun he => h (eqActs_length he)

theorem keptAct {wr wx w1 : World} {b b' o0 o1 o2 o3 : Nat} {v0 v1 v2 v3 : Value} (h : Below wr.heap.size wr wx ∧ wx.cell? ⟨b, o0, none⟩ = some v0 ∧ wx.cell? ⟨b, o1, none⟩ = some v1 ∧ wx.cell? ⟨b', o2, none⟩ = some v2 ∧ wx.cell? ⟨b', o3, none⟩ = some v3)
    (hb : b < wr.heap.size) (hb' : b' < wr.heap.size) (h1 : Below wx.heap.size wx w1) :
    Below wr.heap.size wr w1 ∧ w1.cell? ⟨b, o0, none⟩ = some v0 ∧ w1.cell? ⟨b, o1, none⟩ = some v1 ∧ w1.cell? ⟨b', o2, none⟩ = some v2 ∧ w1.cell? ⟨b', o3, none⟩ = some v3 := by
  obtain ⟨hB, c0, c1, c2, c3⟩ := h
  have hz := hB.size
  exact ⟨hB.trans (h1.mono hz), (h1.cell (p := ⟨b, o0, none⟩) (by show b < _; omega)).trans c0, (h1.cell (p := ⟨b, o1, none⟩) (by show b < _; omega)).trans c1, (h1.cell (p := ⟨b', o2, none⟩) (by show b' < _; omega)).trans c2, (h1.cell (p := ⟨b', o3, none⟩) (by show b' < _; omega)).trans c3⟩
set_option maxHeartbeats 1600000 in
theorem eqActS_any (A B : Option Addr) (n m c d : Nat) (ps qs : List ActD) (w : World) (hA : Acts w A n ps) (hB : Acts w B m qs) (hn : n ≤ maxLen) (hm : m ≤ maxLen) :
    Calls Tryd.prog 8 #[.slice A n c, .slice B m d] w fun e w' => e = .returned (.bool (eqActs ps qs)) ∧ Below w.heap.size w w' := by
  unfold maxLen at hn hm
  by_cases hl : n = m
  · subst hl
    go_enter Tryd.func8, Tryd.ntmps8
    go_wp2
    go_loopw [5] (fun i wr => ∃ k : Nat, k ≤ n ∧ i = .int .i64 k ∧ Below w.heap.size w wr ∧ eqActs ps qs = eqActs (ps.drop k) (qs.drop k)) (fun i _ => n - (intOf i).toNat)
    case atStart => exact ⟨0, by omega, rfl, Below.refl _ _, rfl⟩
    case round =>
      obtain ⟨k, hk, rfl, hbw, he⟩ := hrel
      replace he := Lib.hid he
      by_cases hlt : k < n
      · obtain ⟨b, off, x, rfl, hb, hx, c0, c1⟩ := act_at (hA.below hbw) hlt
        obtain ⟨b', off', y, rfl, hb', hy, d0, d1⟩ := act_at (hB.below hbw) hlt
        have hk0 : (0 : Int) ≤ (k : Int) := Int.natCast_nonneg _
        have hk1 : (k : Int) < (n : Int) := by omega
        by_cases hq : x.eqB y = true
        · have hnext := Lib.hid (eqActs_step hx.out hy.out hq)
          have HQ := Lib.hid hq
          clear hq
          go_wp2_with fail
          go_region_held3 (fun w' => Below wr.heap.size wr w' ∧ w'.cell? ⟨b, off + k * 2, none⟩ = some (.int .i64 x.kind) ∧ w'.cell? ⟨b, off + k * 2 + 1, none⟩ = some (.string x.letter) ∧ w'.cell? ⟨b', off' + k * 2, none⟩ = some (.int .i64 y.kind) ∧ w'.cell? ⟨b', off' + k * 2 + 1, none⟩ = some (.string y.letter)) (first | exact ⟨(Below.refl _ _).drew, c0, c1, d0, d1⟩ | (exact keptAct (by assumption) hb hb' hb1)) (first | (go_at_call 33; refine (eqAct_is HQ.out _).mono ?_; rintro e w1 ⟨rfl, hb1⟩))
          have hw1 : Below w.heap.size w w1 := hbw.trans (((Below.refl _ wr).drew.trans hb1).mono hbw.size)
          clear hb1 c0 c1 d0 d1
          go_wp2
          go_roundw
          case rel => exact ⟨k + 1, by omega, by go_num, hw1, he.out.trans hnext.out⟩
          case measure => simp [intOf]; omega
        · have hq' : x.eqB y = false := by simpa using hq
          have hres := Lib.hid (eqActs_stop hx.out hy.out hq')
          have HQ := Lib.hid hq'
          clear hq hq'
          go_wp2_with fail
          go_region_held3 (fun w' => Below wr.heap.size wr w' ∧ w'.cell? ⟨b, off + k * 2, none⟩ = some (.int .i64 x.kind) ∧ w'.cell? ⟨b, off + k * 2 + 1, none⟩ = some (.string x.letter) ∧ w'.cell? ⟨b', off' + k * 2, none⟩ = some (.int .i64 y.kind) ∧ w'.cell? ⟨b', off' + k * 2 + 1, none⟩ = some (.string y.letter)) (first | exact ⟨(Below.refl _ _).drew, c0, c1, d0, d1⟩ | (exact keptAct (by assumption) hb hb' hb1)) (first | (go_at_call 33; refine (eqAct_is HQ.out _).mono ?_; rintro e w1 ⟨rfl, hb1⟩))
          have hw1 : Below w.heap.size w w1 := hbw.trans (((Below.refl _ wr).drew.trans hb1).mono hbw.size)
          clear hb1 c0 c1 d0 d1
          go_wp2
          go_ret
          exact ⟨ret_bo (hres.out ▸ he.out.symm), hw1⟩
      · obtain rfl : k = n := by omega
        have hres := Lib.hid (eqActs_end hA.1 hB.1)
        go_wp2
        go_ret
        exact ⟨ret_bo (hres.out ▸ he.out.symm), hbw⟩
  · have hl' : ((n : Int) == (m : Int)) = false := beq_eq_false_iff_ne.2 (by omega)
    have hres := Lib.hid (eqActs_len (ps := ps) (qs := qs) (by rw [hA.1, hB.1]; exact hl))
    clear hl
    go_enter Tryd.func8, Tryd.ntmps8
    go_wp2
    go_ret
    exact ⟨ret_bo hres.out.symm, Below.refl _ _⟩

/-- What szS hands back: less than nothing, or all is small. -/
def szActOut (l : Int) (n : Nat) (ps : List ActD) (w : World) (e : Ending) (w' : World) : Prop :=
  ∃ v : Int, e = .returned (.int .i64 v) ∧ -1 ≤ v ∧ v ≤ l ∧ (0 ≤ v → (n : Int) ≤ l ∧ ∀ x ∈ ps, x.small) ∧ Below w.heap.size w w'
end Go.Proofs.YtiopeheockajaaaDoor
