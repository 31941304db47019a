/- Slices of slices of string as lists of lists: how one is read, how one that a call owns lies in memory. (Out of IssD, by tools/mksss.py.) -/
import Derived.Test.YtcaojaaooadeaaaIssD
import Derived.Test.YtcaojaaooadeaaaStrA
namespace Go.Proofs.Ytcaojaaooadeaaa
open Go.RowKit Go.ChangeShapes Go.WideShapes Go.Deep
set_option linter.unusedVariables false
set_option linter.unusedSimpArgs false

/-- '.slice A n c' reads as the list of lists xss. -/
def StrSS (w : World) (A : Option Addr) (n : Nat) (xss : List (List ByteArray)) : Prop :=
  ∃ rs : List RowD, SRow 1 RowD.cells w A n rs ∧ xss.length = n ∧ ∀ (i : Nat) (r : RowD) (xs : List ByteArray), rs[i]? = some r → xss[i]? = some xs → Strs w r.A r.n xs ∧ r.n ≤ maxLen
theorem StrSS.len {w : World} {A : Option Addr} {n : Nat} {xss : List (List ByteArray)} (h : StrSS w A n xss) : xss.length = n := let ⟨_, _, h, _⟩ := h; h
theorem StrSS.below {w w' : World} {A : Option Addr} {n : Nat} {xss : List (List ByteArray)} (h : StrSS w A n xss) (hb : Below w.heap.size w w') : StrSS w' A n xss := by
  obtain ⟨rs, h1, h2, h3⟩ := h
  exact ⟨rs, h1.below hb, h2, fun i r xs hr hx => ⟨(h3 i r xs hr hx).1.below hb, (h3 i r xs hr hx).2⟩⟩
theorem sss_at {w : World} {A : Option Addr} {n k : Nat} {xss : List (List ByteArray)} (h : StrSS w A n xss) (hk : k < n) :
    ∃ b off B m c xs, A = some ⟨b, off, none⟩ ∧ b < w.heap.size ∧ Hid (xss[k]? = some xs) ∧ w.cell? ⟨b, off + k, none⟩ = some (.slice B m c) ∧ Strs w B m xs ∧ m ≤ maxLen := by
  obtain ⟨rs, h1, h2, h3⟩ := h
  obtain ⟨b, off, r, e, hb, hx, hc⟩ := h1.at_ hk
  have h0 := hc 0 _ rfl
  rw [Nat.mul_one, Nat.add_zero] at h0
  have hl : k < xss.length := by omega
  obtain ⟨h4, h5⟩ := h3 k r _ hx (List.getElem?_eq_getElem hl)
  exact ⟨b, off, r.A, r.n, r.c, xss[k], e, hb, Lib.hid (List.getElem?_eq_getElem hl), h0, h4, h5⟩

/-- A slice of slices that the call owns: all its blocks have numbers from lo on and below hi, and no two of them are one. -/
def OStrSS (w : World) (lo hi : Nat) (A : Option Addr) (n : Nat) (xss : List (List ByteArray)) : Prop :=
  ∃ rs : List RowD, ORow 22 1 RowD.cells w lo A n rs ∧ xss.length = n ∧ (∀ q, A = some q → q.block < hi) ∧
    (∀ (i : Nat) (r : RowD) (xs : List ByteArray), rs[i]? = some r → xss[i]? = some xs → OStrs w lo r.A r.n xs ∧ r.n ≤ 1048576) ∧
    (∀ (i : Nat) (r : RowD) (p : Addr), rs[i]? = some r → r.A = some p → p.block < hi ∧ ∀ q, A = some q → p.block ≠ q.block) ∧
    (∀ (i j : Nat) (r s : RowD) (p q : Addr), i ≠ j → rs[i]? = some r → rs[j]? = some s → r.A = some p → s.A = some q → p.block ≠ q.block)
section
variable {w w' : World} {lo hi : Nat} {A : Option Addr} {n : Nat} {xss : List (List ByteArray)}
theorem OStrSS.srow (h : OStrSS w lo hi A n xss) : StrSS w A n xss := by
  obtain ⟨rs, h1, h2, _, h3, _⟩ := h
  exact ⟨rs, h1.srow, h2, fun i r xs hr hx => ⟨(h3 i r xs hr hx).1.srow, by have := (h3 i r xs hr hx).2; unfold maxLen; omega⟩⟩
theorem OStrSS.below (h : OStrSS w lo hi A n xss) (hb : Below w.heap.size w w') : OStrSS w' lo hi A n xss := by
  obtain ⟨rs, h1, h2, h3, h4, h5, h6⟩ := h
  exact ⟨rs, h1.below hb, h2, h3, fun i r xs hr hx => ⟨(h4 i r xs hr hx).1.below hb, (h4 i r xs hr hx).2⟩, h5, h6⟩
theorem OStrSS.mono {hi' : Nat} (h : OStrSS w lo hi A n xss) (hh : hi ≤ hi') : OStrSS w lo hi' A n xss := by
  obtain ⟨rs, h1, h2, h3, h4, h5, h6⟩ := h
  exact ⟨rs, h1, h2, fun q hq => Nat.lt_of_lt_of_le (h3 q hq) hh, h4, fun i r p hr hp => ⟨Nat.lt_of_lt_of_le (h5 i r p hr hp).1 hh, (h5 i r p hr hp).2⟩, h6⟩
end

theorem StrSS.only_old {w w' wk : World} {lo hi : Nat} {A : Option Addr} {n : Nat} {xss : List (List ByteArray)} (hk : StrSS wk A n xss) (hb : Below wk.heap.size wk w) (hg : OnlyIn lo hi w w') (hl : wk.heap.size ≤ lo) : StrSS w' A n xss := hk.below (hg.below hb hl)
abbrev sssGood (xs : List ByteArray) : Prop := ∀ x ∈ xs, strGood x
/-- How many numbers there are in all. -/
def totS (xss : List (List ByteArray)) : Nat := (xss.map List.length).sum
theorem totS_drop {xss : List (List ByteArray)} {k : Nat} {xs : List ByteArray} (hx : xss[k]? = some xs) : totS (xss.drop k) = xs.length + totS (xss.drop (k + 1)) := by
  obtain ⟨h1, rfl⟩ := List.getElem?_eq_some_iff.1 hx
  rw [List.drop_eq_getElem_cons h1]
  rfl
theorem totS_append (a b : List (List ByteArray)) : totS (a ++ b) = totS a + totS b := by simp [totS]
theorem totS_end {xss : List (List ByteArray)} {k : Nat} (h : xss.length = k) : totS (xss.drop k) = 0 := by
  rw [List.drop_of_length_le (by omega)]
  rfl
theorem totS_take {xss : List (List ByteArray)} {k : Nat} {xs : List ByteArray} (hx : xss[k]? = some xs) : totS (xss.take (k + 1)) = totS (xss.take k) + xs.length := by
  obtain ⟨h1, rfl⟩ := List.getElem?_eq_some_iff.1 hx
  rw [List.take_succ_eq_append_getElem h1, totS_append]
  simp [totS]
theorem totS_le {xss : List (List ByteArray)} {k : Nat} {xs : List ByteArray} (hx : xss[k]? = some xs) : xs.length ≤ totS xss := by
  have h1 := totS_drop hx
  have h2 : totS xss = totS (xss.take k) + totS (xss.drop k) := by
    conv => lhs; rw [← List.take_append_drop k xss]
    simp [totS, -List.take_append_drop]
  omega
theorem totS_take_le (xss : List (List ByteArray)) (k : Nat) : totS (xss.take k) ≤ totS xss := by
  have h2 : totS xss = totS (xss.take k) + totS (xss.drop k) := by
    conv => lhs; rw [← List.take_append_drop k xss]
    simp [totS, -List.take_append_drop]
  omega
theorem totS_all {xss : List (List ByteArray)} {k : Nat} (h : xss.length ≤ k) : totS (xss.take k) = totS xss := by rw [List.take_of_length_le h]

theorem Try.infoStrS : (Try.prog.info? 22).map (fun i => (i.zero, i.size, i.bytes)) = some (some (.slice none 0 0), 1, 24) := by kernel_rfl


/-- What szStringSS hands back. -/
def szSssBOut (l : Int) (n : Nat) (xss : List (List ByteArray)) (w : World) (e : Ending) (w' : World) : Prop := ∃ v : Int, e = .returned (.int .i64 v) ∧ v ≤ l ∧ -1 ≤ v ∧ (¬ v < 0 → (n : Int) ≤ l ∧ n + (totS xss : Int) ≤ l ∧ ∀ xs ∈ xss, ∀ x ∈ xs, x.size ≤ 1048576) ∧ Below w.heap.size w w'
def szS2Out (l : Int) (n : Nat) (ps : List ByteArray) (w : World) (e : Ending) (w' : World) : Prop :=
  ∃ v : Int, e = .returned (.int .i64 v) ∧ -1 ≤ v ∧ v ≤ l ∧ (0 ≤ v → (n : Int) + v ≤ l ∧ ∀ x ∈ ps, x.size ≤ 1048576) ∧ w = w'
set_option maxHeartbeats 800000 in
theorem szS2_any (A : Option Addr) (n c : Nat) (l : Int) (ps : List ByteArray) (w : World) (h : Strs w A n ps) (hg : ∀ x ∈ ps, strGood x) (h0 : 0 ≤ l) (h1 : l ≤ 1048576) (hn : n ≤ maxLen) :
    Calls Try.prog 11 #[.slice A n c, .int .i64 l] w (szS2Out l n ps w) := by
  unfold maxLen at hn
  by_cases hc : l - n < 0
  · go_enter Try.func11, Try.ntmps11
    go_wp2
    go_ret
    exact ⟨-1, rfl, by omega, by omega, fun h => absurd h (by omega), rfl⟩
  · go_enter Try.func11, Try.ntmps11
    go_wp2
    go_loopw [1, 5] (fun left i wr => ∃ (k : Nat) (v : Int), k ≤ n ∧ i = .int .i64 k ∧ left = .int .i64 v ∧ 0 ≤ v ∧ v ≤ l - n ∧ (∀ j x, j < k → ps[j]? = some x → x.size ≤ 1048576) ∧ w = wr) (fun _ i _ => n - (intOf i).toNat)
    case atStart => exact ⟨0, l - n, by omega, rfl, rfl, by omega, by omega, fun j x hj => absurd hj (by omega), rfl⟩
    case round =>
      obtain ⟨k, v, hk, rfl, rfl, hv0, hv1, hs, rfl⟩ := hrel
      replace hs := Lib.hid hs
      by_cases hlt : k < n
      · obtain ⟨b, off, x, rfl, hb, hx, c0⟩ := str_at h hlt
        have hgx : x.size ≤ maxLen := hg x (List.mem_of_getElem? hx.out)
        unfold maxLen at hgx
        by_cases hneg : v - (x.size : Int) < 0
        · go_wp2
          go_ret
          exact ⟨-1, rfl, by omega, by omega, fun h => absurd h (by omega), rfl⟩
        · have hnext : Hid (∀ j y, j < k + 1 → ps[j]? = some y → y.size ≤ 1048576) := Lib.hid fun j y hj hy => by
            rcases Nat.lt_or_ge j k with h2 | h2
            · exact hs.out j y h2 hy
            · obtain rfl : j = k := by omega
              have h3 := hx.out
              rw [hy] at h3
              cases h3
              omega
          go_wp2
          go_roundw
          case rel => exact ⟨k + 1, v - (x.size : Int), by omega, by go_num, rfl, by omega, by omega, hnext.out, by trivial⟩
          case measure => simp [intOf]; omega
      · obtain rfl : k = n := by omega
        have hall : Hid (∀ x ∈ ps, x.size ≤ 1048576) := Lib.hid fun x hx => by
          obtain ⟨j, hj, rfl⟩ := List.getElem_of_mem hx
          exact hs.out j _ (by rw [← h.1]; exact hj) (List.getElem?_eq_getElem hj)
        go_wp2
        go_ret
        exact ⟨v, rfl, by omega, by omega, fun _ => ⟨by omega, hall.out⟩, rfl⟩
set_option maxRecDepth 100000 in
theorem open_stringss {H : Type} {enc : TypeId × Value → H} {w : World} {base : Nat} {spare : Nat → Bool} {held : Bool} {r : Reach} {b0 : Nat} {v : Value} {d : DataW H} {p : List MemPlace}
    (hv : Value.okWide Try.prog w r b0 50 v) (h : DataW.Trod enc Try.prog w base spare held 50 v d p) :
    ∃ A n c xss, v = .slice A n c ∧ (n ≤ maxLen ∧ StrSS w A n xss ∧ ∀ xs ∈ xss, ∀ x ∈ xs, strGood x) := by
  obtain ⟨A, n, c, rfl⟩ := okWide_slice Try.underlying50 hv
  obtain ⟨fuel, hf⟩ := h
  rcases open_slice Try.underlying50 (by simpa [Value.cells] using hf) with ⟨h0, _⟩ | ⟨a, len', cap', m', n', D, Pl, hcs, hb, hl, hm, hmm, hx, hi⟩
  · simp at h0
    obtain ⟨rfl, rfl, rfl⟩ := h0
    exact ⟨_, _, _, [], rfl, by unfold maxLen; omega, ⟨[], .nil_, rfl, fun i r xs hr => by simp at hr⟩, fun x hx => by cases hx⟩
  · simp at hcs
    obtain ⟨rfl, rfl, rfl⟩ := hcs
    have hC : Try.prog.cellsOf 22 = 1 := by kernel_rfl
    obtain ⟨l, hl2, hp⟩ := list_of_lt (p := fun i (y : RowD × List ByteArray) => w.cell? (a.add i) = some (.slice y.1.A y.1.n y.1.c) ∧ y.1.n ≤ maxLen ∧ Strs w y.1.A y.1.n y.2 ∧ ∀ x ∈ y.2, strGood x) n (fun i hlt => by
      have him' : i < m' := by
        subst hmm
        split <;> omega
      obtain ⟨cs', hc, ht'⟩ := hi i him'
      obtain ⟨A1, n1, c1, xs1, e1, h1, h2, h3⟩ := trod_strs ht'
      subst e1
      rw [hC] at hc
      obtain ⟨_, hcl, hat⟩ := World.cells?_some hc
      have h9 := hat 0 (by simp)
      rw [Go.Deep.add_add] at h9
      exact ⟨(⟨A1, n1, c1⟩, xs1), by simpa using h9, h1, h2, h3⟩)
    refine ⟨some a, n, c, l.map (·.2), rfl, Nat.le_trans hl hm, ⟨l.map (·.1), ⟨by simp [hl2], fun hn => ?_⟩, by simp [hl2], fun i r xs hr hx => ?_⟩, fun xs hxs x hx => ?_⟩
    · have h10 := (hp 0 l[0] (List.getElem?_eq_getElem (by omega))).1
      obtain ⟨bb, off, spot⟩ := a
      have hspot : spot = none := by simpa [Addr.add] using World.cell?_spot h10
      subst hspot
      refine ⟨bb, off, rfl, by have := World.block_lt_of_cell? w _ h10; simpa [Addr.add] using this, fun i r hr q u hu => ?_⟩
      rw [List.getElem?_map] at hr
      obtain ⟨y, hy, rfl⟩ := Option.map_eq_some_iff.1 hr
      match q, hu with
      | 0, hu =>
        simp [RowD.cells] at hu
        subst hu
        have h11 := (hp i y hy).1
        unfold Addr.add at h11
        by_cases hz : i = 0
        · subst hz; simpa using h11
        · rw [if_neg hz] at h11; simpa using h11
      | q + 1, hu => simp [RowD.cells] at hu
    · rw [List.getElem?_map] at hr hx
      obtain ⟨y, hy, rfl⟩ := Option.map_eq_some_iff.1 hr
      rw [hy] at hx
      simp at hx
      subst hx
      exact ⟨(hp i y hy).2.2.1, (hp i y hy).2.1⟩
    · simp only [List.mem_map] at hxs
      obtain ⟨y, hy, rfl⟩ := hxs
      obtain ⟨i, hi2, rfl⟩ := List.getElem_of_mem hy
      exact (hp i _ (List.getElem?_eq_getElem hi2)).2.2.2 x hx
end Go.Proofs.Ytcaojaaooadeaaa
