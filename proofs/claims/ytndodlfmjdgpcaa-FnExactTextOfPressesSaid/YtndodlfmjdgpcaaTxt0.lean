/- What presses type: the plain function, the tests on presses, the letter that a press prints. -/
import Derived.Test.YtndodlfmjdgpcaaLetOf
namespace Go.Proofs.Ytndodlfmjdgpcaa
open Go.RowKit Go.ChangeMaps Go.MapKept
set_option linter.unusedVariables false
set_option linter.unusedSimpArgs false

def letterOf (ks : List KeyD) (p : PressD) : ByteArray := match ks[p.key.toNat]? with
  | some x => if p.shift = true then x.high else x.low
  | none => ByteArray.empty
def deadOf (ks : List KeyD) (p : PressD) : Bool := match ks[p.key.toNat]? with
  | some x => x.dead
  | none => false
def onKeys (n : Nat) (p : PressD) : Bool := decide (0 ≤ p.key) && decide (p.key < (n : Int))
def madeOf (m l : ByteArray) : List AccentD → Option ByteArray
  | [] => none
  | a :: r => if a.mark = m ∧ a.letter = l then some a.made else madeOf m l r
/-- What is typed behind a mark (or none). -/
def typeS (ks : List KeyD) (as_ : List AccentD) : Option ByteArray → List PressD → Option (List UInt8)
  | none, [] => some []
  | some _, [] => none
  | some m, p :: r => match madeOf m (letterOf ks p) as_ with
    | none => none
    | some t => (typeS ks as_ none r).map (t.data.toList ++ ·)
  | none, p :: r => if deadOf ks p = true then typeS ks as_ (some (letterOf ks p)) r else (typeS ks as_ none r).map ((letterOf ks p).data.toList ++ ·)
def psOk (n : Nat) (ps : List PressD) : Bool := ps.all (onKeys n) && decide (ps.length ≤ 200)
def textR (ks : List KeyD) (as_ : List AccentD) (ps : List PressD) : ByteArray × Int := if validKb ks as_ = true then (if psOk ks.length ps = true then (match typeS ks as_ none ps with | some l => (⟨l.toArray⟩, 0) | none => (ByteArray.empty, 6)) else (ByteArray.empty, 2)) else (ByteArray.empty, 1)

theorem type_none {ks : List KeyD} {as_ : List AccentD} {ps : List PressD} {k : Nat} {x : PressD} (hx : ps[k]? = some x) (hd : deadOf ks x = false) : typeS ks as_ none (ps.drop k) = (typeS ks as_ none (ps.drop (k + 1))).map ((letterOf ks x).data.toList ++ ·) := by
  obtain ⟨h1, rfl⟩ := List.getElem?_eq_some_iff.1 hx
  rw [List.drop_eq_getElem_cons h1, typeS, if_neg (by simp [hd])]
theorem type_dead {ks : List KeyD} {as_ : List AccentD} {ps : List PressD} {k : Nat} {x : PressD} (hx : ps[k]? = some x) (hd : deadOf ks x = true) : typeS ks as_ none (ps.drop k) = typeS ks as_ (some (letterOf ks x)) (ps.drop (k + 1)) := by
  obtain ⟨h1, rfl⟩ := List.getElem?_eq_some_iff.1 hx
  rw [List.drop_eq_getElem_cons h1, typeS, if_pos hd]
theorem type_some {ks : List KeyD} {as_ : List AccentD} {ps : List PressD} {k : Nat} {x : PressD} {m t : ByteArray} (hx : ps[k]? = some x) (hd : madeOf m (letterOf ks x) as_ = some t) : typeS ks as_ (some m) (ps.drop k) = (typeS ks as_ none (ps.drop (k + 1))).map (t.data.toList ++ ·) := by
  obtain ⟨h1, rfl⟩ := List.getElem?_eq_some_iff.1 hx
  rw [List.drop_eq_getElem_cons h1, typeS, hd]
theorem type_stop {ks : List KeyD} {as_ : List AccentD} {ps : List PressD} {k : Nat} {x : PressD} {m : ByteArray} (hx : ps[k]? = some x) (hd : madeOf m (letterOf ks x) as_ = none) : typeS ks as_ (some m) (ps.drop k) = none := by
  obtain ⟨h1, rfl⟩ := List.getElem?_eq_some_iff.1 hx
  rw [List.drop_eq_getElem_cons h1, typeS, hd]
theorem type_end {ks : List KeyD} {as_ : List AccentD} {ps : List PressD} {k : Nat} (hk : ps.length ≤ k) : typeS ks as_ none (ps.drop k) = some [] := by
  rw [List.drop_of_length_le hk, typeS]
theorem type_cut {ks : List KeyD} {as_ : List AccentD} {ps : List PressD} {k : Nat} {m : ByteArray} (hk : ps.length ≤ k) : typeS ks as_ (some m) (ps.drop k) = none := by
  rw [List.drop_of_length_le hk, typeS]
theorem map_map {o : Option (List UInt8)} {a b : List UInt8} : (o.map (b ++ ·)).map (a ++ ·) = o.map ((a ++ b) ++ ·) := by
  cases o <;> simp
theorem textR_of {ks : List KeyD} {as_ : List AccentD} {ps : List PressD} (h1 : validKb ks as_ = true) (h2 : psOk ks.length ps = true) : textR ks as_ ps = (match typeS ks as_ none ps with | some l => (⟨l.toArray⟩, 0) | none => (ByteArray.empty, 6)) := by
  rw [textR, if_pos h1, if_pos h2]
theorem all_at {ps : List PressD} {n k : Nat} {x : PressD} (h : ps.all (onKeys n) = true) (hx : ps[k]? = some x) : 0 ≤ x.key ∧ x.key < (n : Int) := by
  have := List.all_eq_true.1 h x (List.mem_of_getElem? hx)
  unfold onKeys at this
  simpa using this
theorem all_no {ps : List PressD} {n k : Nat} {x : PressD} (hx : ps[k]? = some x) (h : onKeys n x = false) : psOk n ps = false := by
  have : ps.all (onKeys n) = false := by
    rw [List.all_eq_false]
    exact ⟨x, List.mem_of_getElem? hx, by simp [h]⟩
  rw [psOk, this, Bool.false_and]
theorem all_more {ps : List PressD} {n k : Nat} {x : PressD} (hx : ps[k]? = some x) (h : onKeys n x = true) (ht : (ps.take k).all (onKeys n) = true) : (ps.take (k + 1)).all (onKeys n) = true := by
  obtain ⟨h1, rfl⟩ := List.getElem?_eq_some_iff.1 hx
  rw [List.take_succ_eq_append_getElem h1, List.all_append, ht]
  simp [h]
theorem key_of {ks : List KeyD} {p : PressD} (h0 : 0 ≤ p.key) (h1 : p.key < (ks.length : Int)) : ∃ (i : Nat) (x : KeyD), p.key = (i : Int) ∧ ks[i]? = some x ∧ letterOf ks p = (if p.shift = true then x.high else x.low) ∧ deadOf ks p = x.dead := by
  obtain ⟨i, hi⟩ : ∃ i : Nat, p.key = (i : Int) := ⟨p.key.toNat, by omega⟩
  have hlt : i < ks.length := by omega
  have hn : p.key.toNat = i := by omega
  refine ⟨i, ks[i], hi, List.getElem?_eq_getElem hlt, ?_, ?_⟩
  · rw [letterOf, hn, List.getElem?_eq_getElem hlt]
  · rw [deadOf, hn, List.getElem?_eq_getElem hlt]
theorem letter_is {ks : List KeyD} {as_ : List AccentD} (hv : validKb ks as_ = true) {p : PressD} (h0 : 0 ≤ p.key) (h1 : p.key < (ks.length : Int)) : isLet (letterOf ks p) = true := by
  have hok : okKeys 0 [] ks = true := by
    unfold validKb at hv
    simp only [Bool.and_eq_true] at hv
    exact hv.1.1.1
  obtain ⟨i, x, _, hx, hl, _⟩ := key_of h0 h1
  obtain ⟨i1, i2, _, _⟩ := okKey_parts (okKeys_at hok hx)
  rw [hl]
  split
  · exact i2
  · exact i1
theorem made_is {ks : List KeyD} {as_ : List AccentD} (hv : validKb ks as_ = true) {m l t : ByteArray} (h : madeOf m l as_ = some t) : isLet t = true := by
  have hacc : okAccs (spots 0 ks) [] as_ = true := by
    unfold validKb at hv
    simp only [Bool.and_eq_true] at hv
    exact hv.1.1.2
  have hmem : ∀ l2 : List AccentD, madeOf m l l2 = some t → ∃ a ∈ l2, a.made = t := by
    intro l2
    induction l2 with
    | nil => intro h; cases h
    | cons a r ih =>
      intro h
      rw [madeOf] at h
      split at h
      · cases h
        exact ⟨a, List.mem_cons_self .., rfl⟩
      · obtain ⟨b, hb, e⟩ := ih h
        exact ⟨b, List.mem_cons_of_mem _ hb, e⟩
  obtain ⟨a, ha, rfl⟩ := hmem as_ h
  have h1 := okAccs_mem as_ [] hacc ha
  unfold okAcc at h1
  simp only [Bool.and_eq_true] at h1
  exact h1.2
theorem isLet_size {s : ByteArray} (h : isLet s = true) : s.size = 1 := by
  obtain ⟨z, rfl, _⟩ := isLet_is h
  rfl
theorem not_empty {s : ByteArray} (h : isLet s = true) : ¬ s = ⟨#[]⟩ := fun e => by
  have := isLet_size h
  rw [e] at this
  cases this
theorem val_made_of (m l : ByteArray) : ∀ as_ : List AccentD, valOf (m, l) (madeL as_) = (madeOf m l as_).map fun t => Value.string t
  | [] => rfl
  | a :: r => by
    have ih := val_made_of m l r
    unfold madeL at ih ⊢
    simp only [List.map_cons, valOf, madeOf]
    by_cases h : (m, l) = (a.mark, a.letter)
    · rw [if_pos h]
      simp only [Prod.mk.injEq] at h
      rw [if_pos ⟨h.1.symm, h.2.symm⟩]
      rfl
    · rw [if_neg h, ih]
      simp only [Prod.mk.injEq] at h
      rw [if_neg (fun e => h ⟨e.1.symm, e.2.symm⟩)]
theorem madeOf_snoc (m l : ByteArray) (x : AccentD) : ∀ L : List AccentD, madeOf m l (L ++ [x]) = (madeOf m l L).or (if x.mark = m ∧ x.letter = l then some x.made else none)
  | [] => by simp [madeOf]
  | a :: L => by
    rw [List.cons_append, madeOf, madeOf, madeOf_snoc m l x L]
    split <;> rfl
theorem made_hit {ks : List KeyD} {as_ : List AccentD} (hv : validKb ks as_ = true) {m l : ByteArray} {k : Nat} {x : AccentD} (hx : as_[k]? = some x) (h1 : x.mark = m) (h2 : x.letter = l) : madeOf m l (as_.take (k + 1)) = some x.made := by
  obtain ⟨hk, e⟩ := List.getElem?_eq_some_iff.1 hx
  rw [List.take_succ_eq_append_getElem hk, e, madeOf_snoc, if_pos ⟨h1, h2⟩]
  have hacc : okAccs (spots 0 ks) [] as_ = true := by
    unfold validKb at hv
    simp only [Bool.and_eq_true] at hv
    exact hv.1.1.2
  have hall : ∀ j, j ≤ as_.length → okAccs (spots 0 ks) (as_.take j) (as_.drop j) = true := by
    intro j
    induction j with
    | zero => intro _; exact hacc
    | succ j ih =>
      intro hj
      have := ih (by omega)
      rw [okAccs_drop (List.getElem?_eq_getElem (show j < as_.length by omega)), Bool.and_eq_true] at this
      exact this.2
  have hk2 := hall k (by omega)
  rw [okAccs_drop hx, Bool.and_eq_true, Bool.and_eq_true] at hk2
  have hno : ∀ L : List AccentD, (L.all fun b => !clash b x) = true → madeOf m l L = none := by
    intro L
    induction L with
    | nil => intro _; rfl
    | cons a r ih =>
      intro h
      rw [List.all_cons, Bool.and_eq_true] at h
      rw [madeOf, if_neg, ih h.2]
      rintro ⟨e1, e2⟩
      have hc : clash a x = true := by
        unfold clash
        rw [decide_eq_true (show a.mark = x.mark by rw [e1, h1]), decide_eq_true (show a.letter = x.letter by rw [e2, h2])]
        simp
      rw [hc] at h
      exact absurd h.1 (by decide)
  rw [hno _ hk2.1.2]
  rfl
theorem made_miss {as_ : List AccentD} {m l : ByteArray} {k : Nat} {x : AccentD} (hx : as_[k]? = some x) (h : ¬ (x.mark = m ∧ x.letter = l)) : madeOf m l (as_.take (k + 1)) = madeOf m l (as_.take k) := by
  obtain ⟨hk, e⟩ := List.getElem?_eq_some_iff.1 hx
  rw [List.take_succ_eq_append_getElem hk, e, madeOf_snoc, if_neg h, Option.or_none]
theorem kept4a {wr wx w1 : World} {p0 p1 p2 p3 : Addr} {v0 v1 v2 v3 : Value} (h : Below wr.heap.size wr wx ∧ wx.cell? p0 = some v0 ∧ wx.cell? p1 = some v1 ∧ wx.cell? p2 = some v2 ∧ wx.cell? p3 = some v3) (hb : Below wx.heap.size wx w1) : Below wr.heap.size wr w1 ∧ w1.cell? p0 = some v0 ∧ w1.cell? p1 = some v1 ∧ w1.cell? p2 = some v2 ∧ w1.cell? p3 = some v3 := by
  obtain ⟨hB, c0, c1, c2, c3⟩ := h
  exact ⟨hB.step hb, cell_step c0 hb, cell_step c1 hb, cell_step c2 hb, cell_step c3 hb⟩

theorem in_keys {n lo hi : Int} {v : Bool} (h : (decide (lo ≤ n) && decide (n ≤ hi)) = v) (w : World) :
    Calls Try.prog 70 #[.int .i64 n, .int .i64 lo, .int .i64 hi] w fun e w' => e = .returned (.bool v) ∧ w = w' := by
  by_cases h1 : lo ≤ n
  · have hres : Hid (v = decide (n ≤ hi)) := Lib.hid (by rw [← h]; simp [h1])
    clear h
    go_enter Try.func70, Try.ntmps70
    go_wp2
    go_ret
    exact ⟨ret_bo hres.out.symm, rfl⟩
  · have hres : Hid (v = false) := Lib.hid (by rw [← h]; simp [h1])
    have h1' : decide (lo ≤ n) = false := decide_eq_false h1
    clear h h1
    go_enter Try.func70, Try.ntmps70
    go_wp2
    go_ret
    exact ⟨ret_bo hres.out.symm, rfl⟩

set_option maxHeartbeats 800000 in
theorem print_spec (A : Option Addr) (n c : Nat) (ks : List KeyD) (p : PressD) (w : World) (h : Keys w A n ks) (hn : n ≤ 1048576) (h0 : 0 ≤ p.key) (h1 : p.key < (n : Int)) :
    Calls Try.prog 71 #[.slice A n c, .agg #[.int .i64 p.key, .bool p.shift]] w fun e w' => e = .returned (.string (letterOf ks p)) ∧ Below w.heap.size w w' := by
  obtain ⟨i, y, hi, hy, hl, _⟩ := key_of h0 (by rw [h.1]; exact h1)
  have hlt : i < n := by omega
  obtain ⟨b, off, x, rfl, hb, hx, c0, c1, c2⟩ := key_at (h.below (below_a1 w (.cells #[.int .i64 p.key, .bool p.shift] 53))) hlt
  have e := hx.out
  rw [hy] at e
  cases e
  have hi0 : (0 : Int) ≤ (i : Int) := Int.natCast_nonneg _
  have hi1 : (i : Int) < (n : Int) := by omega
  rw [hi] at c0 c1 c2 ⊢
  clear hi h0 h1
  cases hs : p.shift with
  | true =>
    rw [hs] at hl c0 c1 c2
    have hr : Hid (letterOf ks p = y.high) := Lib.hid (by rw [hl]; rfl)
    clear hl hs
    go_enter Try.func71, Try.ntmps71
    go_wp2
    go_ret
    exact ⟨ret_st hr.out.symm, below_a1 _ _⟩
  | false =>
    rw [hs] at hl c0 c1 c2
    have hr : Hid (letterOf ks p = y.low) := Lib.hid (by rw [hl]; rfl)
    clear hl hs
    go_enter Try.func71, Try.ntmps71
    go_wp2
    go_ret
    exact ⟨ret_st hr.out.symm, below_a1 _ _⟩
theorem print_impl (x : KeyD) (sh : Bool) (w : World) :
    Calls Try.prog 66 #[.agg #[.string x.low, .string x.high, .bool x.dead], .bool sh] w fun e w' => e = .returned (.string (if sh = true then x.high else x.low)) ∧ Below w.heap.size w w' := by
  cases sh with
  | true =>
    go_enter Try.func66, Try.ntmps66
    go_wp2
    go_ret
    exact ⟨rfl, below_a1 _ _⟩
  | false =>
    go_enter Try.func66, Try.ntmps66
    go_wp2
    go_ret
    exact ⟨rfl, below_a1 _ _⟩

set_option maxHeartbeats 800000 in
theorem are_impl (A : Option Addr) (n c : Nat) (C : Option Addr) (m d : Nat) (ps : List PressD) (v : Bool) (hv : psOk n ps = v) (w : World) (h : Presses w C m ps) (hn : n ≤ 1048576) (hm : m ≤ 1048576) :
    Calls Try.prog 65 #[.slice A n c, .slice C m d] w fun e w' => e = .returned (.bool v) ∧ Below w.heap.size w w' := by
  by_cases hbig : 200 < m
  · have hr : Hid (v = false) := Lib.hid (by rw [← hv, psOk, decide_eq_false (by rw [h.1]; omega), Bool.and_false])
    have hg : decide ((200 : Int) < (m : Int)) = true := decide_eq_true (by omega)
    clear hv
    go_enter Try.func65, Try.ntmps65
    go_wp2
    go_ret
    exact ⟨ret_bo hr.out.symm, Below.refl _ _⟩
  · have hg : decide ((200 : Int) < (m : Int)) = false := decide_eq_false (by omega)
    replace hv := Lib.hid hv
    go_enter Try.func65, Try.ntmps65
    go_wp2
    go_loopw [12] (fun i wr => ∃ k : Nat, k ≤ m ∧ i = .int .i64 k ∧ Below w.heap.size w wr ∧ (ps.take k).all (onKeys n) = true) (fun i _ => m - (intOf i).toNat)
    case atStart => exact ⟨0, by omega, rfl, Below.refl _ _, rfl⟩
    case round =>
      obtain ⟨k, hk, rfl, hbw, hall⟩ := hrel
      replace hall := Lib.hid hall
      by_cases hlt : k < m
      · obtain ⟨b, off, x, rfl, hb, hx, c0, c1⟩ := press_at (h.below hbw) hlt
        have hk0 : (0 : Int) ≤ (k : Int) := Int.natCast_nonneg _
        have hk1 : (k : Int) < (m : Int) := by omega
        by_cases h1 : x.key < 0
        · have g1 : decide (x.key < 0) = true := decide_eq_true h1
          have hr : Hid (v = false) := Lib.hid (by rw [← hv.out]; exact all_no hx.out (by rw [onKeys, decide_eq_false (by omega), Bool.false_and]))
          clear h1
          go_wp2
          go_ret
          exact ⟨ret_bo hr.out.symm, hbw.step (below_a1 _ _)⟩
        · have g1 : decide (x.key < 0) = false := decide_eq_false h1
          by_cases h2 : (n : Int) ≤ x.key
          · have g2 : decide ((n : Int) ≤ x.key) = true := decide_eq_true h2
            have hr : Hid (v = false) := Lib.hid (by rw [← hv.out]; exact all_no hx.out (by rw [onKeys, decide_eq_false (show ¬ x.key < (n : Int) by omega), Bool.and_false]))
            clear h1 h2
            go_wp2
            go_ret
            exact ⟨ret_bo hr.out.symm, hbw.step (below_a1 _ _)⟩
          · have g2 : decide ((n : Int) ≤ x.key) = false := decide_eq_false h2
            have hnx := Lib.hid (all_more hx.out (n := n) (by rw [onKeys, decide_eq_true (show 0 ≤ x.key by omega), decide_eq_true (show x.key < (n : Int) by omega)]; rfl) hall.out)
            clear h1 h2
            go_wp2
            go_roundw
            case rel => exact ⟨k + 1, by omega, by go_num, hbw.step (below_a1 _ _), hnx.out⟩
            case measure => simp [intOf]; omega
      · have hT : ps.take k = ps := List.take_of_length_le (by rw [h.1]; omega)
        rw [hT] at hall
        have hr : Hid (v = true) := Lib.hid (by rw [← hv.out, psOk, hall.out, decide_eq_true (by rw [h.1]; omega)]; rfl)
        go_wp2
        go_ret
        exact ⟨ret_bo hr.out.symm, hbw⟩
end Go.Proofs.Ytndodlfmjdgpcaa
