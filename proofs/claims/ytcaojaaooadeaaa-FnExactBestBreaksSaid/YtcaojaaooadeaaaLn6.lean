/- Lines of words by breaks: pure, and the model's functions. -/
import Derived.Test.YtcaojaaooadeaaaLn3
namespace Go.Proofs.Ytcaojaaooadeaaa
open Go.RowKit Go.ChangeShapes Go.WideShapes Go.Deep
set_option linter.unusedVariables false
set_option linter.unusedSimpArgs false

/-- Where lines begin and end, from a word and their ends. -/
def prsL : Nat → List Int → List (Nat × Nat)
  | _, [] => []
  | a, e :: r => (a, e.toNat) :: prsL e.toNat r
def endN (a : Nat) (l : List Int) : Nat := l.foldl (fun _ e => e.toNat) a
def lineW (ws : List ByteArray) (p : Nat × Nat) : List ByteArray := (ws.drop p.1).take (p.2 - p.1)
def pairsW (n : Nat) (bs : List Int) : List (Nat × Nat) := if n = 0 then [] else prsL 0 (bs ++ [(n : Int)])
def fitB (ws : List ByteArray) (wd : Int) (p : Nat × Nat) : Bool := decide ((longN (lineW ws p) : Int) ≤ wd)
def codeL (ws : List ByteArray) (wd : Int) (bs : List Int) : Int :=
  if okW ws wd = true then (if risesB ((ws.length : Int) - 1) 1 bs = true then (if (pairsW ws.length bs).all (fitB ws wd) = true then 0 else 5) else 2) else 1
theorem prs_snoc : ∀ (l : List Int) (a : Nat) (e : Int), prsL a (l ++ [e]) = prsL a l ++ [(endN a l, e.toNat)]
  | [], a, e => rfl
  | x :: r, a, e => by simp only [List.cons_append, prsL, prs_snoc r, endN, List.foldl_cons]
theorem end_snoc (l : List Int) (a : Nat) (e : Int) : endN a (l ++ [e]) = e.toNat := by simp [endN]
theorem prs_len : ∀ (l : List Int) (a : Nat), (prsL a l).length = l.length
  | [], _ => rfl
  | x :: r, a => by simp only [prsL, List.length_cons, prs_len r]
theorem prs_ok (n : Nat) : ∀ (bs : List Int) (lo : Int) (a : Nat), risesB ((n : Int) - 1) lo bs = true → (a : Int) < lo → a < n → ∀ p ∈ prsL a (bs ++ [(n : Int)]), p.1 < p.2 ∧ p.2 ≤ n
  | [], lo, a, _, _, h3, p, hp => by
    simp only [List.nil_append, prsL, List.mem_singleton, Int.toNat_natCast] at hp
    subst hp
    exact ⟨h3, Nat.le_refl _⟩
  | e :: r, lo, a, h1, h2, h3, p, hp => by
    simp only [risesB, Bool.and_eq_true] at h1
    have he := inR_iff.1 h1.1
    simp only [List.cons_append, prsL, List.mem_cons] at hp
    rcases hp with rfl | hp
    · exact ⟨by simp only; omega, by simp only; omega⟩
    · exact prs_ok n r (e + 1) e.toNat h1.2 (by omega) (by omega) p hp
theorem rises_len : ∀ (bs : List Int) (lo hi : Int), risesB hi lo bs = true → bs = [] ∨ (bs.length : Int) ≤ hi + 1 - lo
  | [], _, _, _ => .inl rfl
  | e :: r, lo, hi, h => by
    simp only [risesB, Bool.and_eq_true] at h
    have he := inR_iff.1 h.1
    right
    rcases rises_len r (e + 1) hi h.2 with rfl | h2
    · simp only [List.length_cons, List.length_nil]; omega
    · simp only [List.length_cons]; omega
/-- What is known of breaks of n words. -/
theorem pairs_ok {n : Nat} {bs : List Int} (h : risesB ((n : Int) - 1) 1 bs = true) : (pairsW n bs).length ≤ n ∧ (∀ p ∈ pairsW n bs, p.1 < p.2 ∧ p.2 ≤ n) ∧ (n = 0 → bs = []) ∧ bs.length ≤ n ∧ (0 < n → (pairsW n bs).length = bs.length + 1) := by
  have hlen := rises_len bs 1 _ h
  by_cases h0 : n = 0
  · subst h0
    have hb : bs = [] := by
      rcases hlen with h1 | h1
      · exact h1
      · exact List.length_eq_zero_iff.1 (by simp at h1; omega)
    subst hb
    simp [pairsW]
  · rw [pairsW, if_neg h0, prs_len, List.length_append, List.length_singleton]
    refine ⟨?_, prs_ok n bs 1 0 h (by omega) (by omega), fun h => absurd h h0, ?_, fun _ => rfl⟩
    · rcases hlen with h1 | h1
      · subst h1; simp; omega
      · omega
    · rcases hlen with h1 | h1
      · subst h1; simp
      · omega
theorem codeL_1 {ws : List ByteArray} {wd : Int} {bs : List Int} (h : okW ws wd = false) : codeL ws wd bs = 1 := by rw [codeL, h]; rfl
theorem codeL_2 {ws : List ByteArray} {wd : Int} {bs : List Int} (h : okW ws wd = true) (h2 : risesB ((ws.length : Int) - 1) 1 bs = false) : codeL ws wd bs = 2 := by rw [codeL, if_pos h, h2]; rfl
theorem codeL_3 {ws : List ByteArray} {wd : Int} {bs : List Int} (h : okW ws wd = true) (h2 : risesB ((ws.length : Int) - 1) 1 bs = true) : codeL ws wd bs = if (pairsW ws.length bs).all (fitB ws wd) = true then 0 else 5 := by rw [codeL, if_pos h, if_pos h2]
theorem codeL_ok {ws : List ByteArray} {wd : Int} {bs : List Int} (h : codeL ws wd bs = 0) : okW ws wd = true ∧ risesB ((ws.length : Int) - 1) 1 bs = true ∧ (pairsW ws.length bs).all (fitB ws wd) = true := by
  cases h1 : okW ws wd with
  | false => rw [codeL_1 h1] at h; cases h
  | true =>
    cases h2 : risesB ((ws.length : Int) - 1) 1 bs with
    | false => rw [codeL_2 h1 h2] at h; cases h
    | true =>
      rw [codeL_3 h1 h2] at h
      cases h3 : (pairsW ws.length bs).all (fitB ws wd) with
      | false => rw [h3] at h; cases h
      | true => exact ⟨rfl, rfl, rfl⟩
theorem lineW_len {ws : List ByteArray} {p : Nat × Nat} (h1 : p.1 < p.2) (h2 : p.2 ≤ ws.length) : (lineW ws p).length = p.2 - p.1 := by rw [lineW, List.length_take, List.length_drop]; omega
theorem lineW_mem {ws : List ByteArray} {p : Nat × Nat} {x : ByteArray} (h : x ∈ lineW ws p) : x ∈ ws := List.mem_of_mem_drop (List.mem_of_mem_take h)
/-- A line of the words' own slice. -/
def viewC (b off c : Nat) (p : Nat × Nat) : List Value := [.slice (some ⟨b, off + p.1, none⟩) (p.2 - p.1) (c - p.1)]
abbrev Views (b off c : Nat) (w : World) (A : Option Addr) (m : Nat) (ps : List (Nat × Nat)) : Prop := SRow 1 (viewC b off c) w A m ps
theorem view_at {w : World} {b off c : Nat} {A : Option Addr} {m k : Nat} {ps : List (Nat × Nat)} (h : Views b off c w A m ps) (hk : k < m) :
    ∃ g o p, A = some ⟨g, o, none⟩ ∧ g < w.heap.size ∧ Hid (ps[k]? = some p) ∧ w.cell? ⟨g, o + k, none⟩ = some (.slice (some ⟨b, off + p.1, none⟩) (p.2 - p.1) (c - p.1)) := by
  obtain ⟨g, o, p, e, hb, hx, hc⟩ := h.at_ hk
  have h0 := hc 0 _ rfl
  rw [Nat.mul_one, Nat.add_zero] at h0
  exact ⟨g, o, p, e, hb, Lib.hid hx, h0⟩
theorem view_strs {w : World} {b off n : Nat} {ws : List ByteArray} (h : Strs w (some ⟨b, off, none⟩) n ws) {p : Nat × Nat} (h1 : p.1 < p.2) (h2 : p.2 ≤ n) : Strs w (some ⟨b, off + p.1, none⟩) (p.2 - p.1) (lineW ws p) := by
  obtain ⟨b', off', e, _, hV⟩ := view9 h h1 h2
  cases e
  exact hV
theorem snoc9 (b off c : Nat) (l : List (Nat × Nat)) (p : Nat × Nat) : (l ++ [p]).flatMap (viewC b off c) = l.flatMap (viewC b off c) ++ [.slice (some ⟨b, off + p.1, none⟩) (p.2 - p.1) (c - p.1)] := by simp [viewC]
theorem one9 (A : Option Addr) (n c : Nat) : ∀ u ∈ [Value.slice A n c], u.oneCell' = true := by
  intro u hu
  simp only [List.mem_cons, List.not_mem_nil, or_false] at hu
  rcases hu with rfl; rfl
theorem owns_v9 {w : World} {base m b off c : Nat} {L : Value} {l : List (Nat × Nat)} (hn : l.length = m) (h : w.ownsRow base 22 1 L m (l.flatMap (viewC b off c))) : ∃ A c', L = .slice A m c' ∧ ORow 22 1 (viewC b off c) w base A m l := by
  subst hn
  exact ORow.of_owns (fun _ => rfl) h
theorem Try.infoStrS : (Try.prog.info? 22).map (fun i => (i.zero, i.size, i.bytes)) = some (some (.slice none 0 0), 1, 24) := by kernel_rfl
def sum9 : List Int → Int
  | [] => 0
  | x :: r => x + sum9 r
theorem sum9_snoc : ∀ (l : List Int) (x : Int), sum9 (l ++ [x]) = sum9 l + x
  | [], x => by simp [sum9]
  | y :: r, x => by simp only [List.cons_append, sum9, sum9_snoc r x]; omega
theorem sum9_range : ∀ (l : List Int), (∀ x ∈ l, 0 ≤ x ∧ x ≤ 6400) → 0 ≤ sum9 l ∧ sum9 l ≤ 6400 * (l.length : Int)
  | [], _ => by simp [sum9]
  | y :: r, h => by
    have := h y (by simp)
    have h2 := sum9_range r (fun x hx => h x (by simp [hx]))
    simp only [sum9, List.length_cons]
    omega
def sqW (ws : List ByteArray) (wd : Int) (p : Nat × Nat) : Int := (wd - (longN (lineW ws p) : Int)) * (wd - (longN (lineW ws p) : Int))
def badN (ws : List ByteArray) (wd : Int) (ps : List (Nat × Nat)) (k : Nat) : Int := sum9 ((ps.take k).map (sqW ws wd))
theorem badN_next {ws : List ByteArray} {wd : Int} {ps : List (Nat × Nat)} {k : Nat} {p : Nat × Nat} (h : ps[k]? = some p) : badN ws wd ps (k + 1) = badN ws wd ps k + sqW ws wd p := by
  rw [badN, take8 h, List.map_append, List.map_singleton, sum9_snoc]
  rfl
theorem sq_range {x : Int} (h0 : 0 ≤ x) (h1 : x ≤ 80) : 0 ≤ x * x ∧ x * x ≤ 6400 :=
  ⟨Int.mul_nonneg h0 h0, Int.le_trans (Int.mul_le_mul h1 h1 h0 (by omega)) (by decide)⟩
theorem badN_range {ws : List ByteArray} {wd : Int} {ps : List (Nat × Nat)} (h80 : wd ≤ 80) (hf : ps.all (fitB ws wd) = true) (hl : ps.length ≤ 1000) (k : Nat) : 0 ≤ badN ws wd ps k ∧ badN ws wd ps k ≤ 6400000 := by
  have h := sum9_range ((ps.take k).map (sqW ws wd)) (fun x hx => by
    obtain ⟨p, hp, rfl⟩ := List.mem_map.1 hx
    have := List.all_eq_true.1 hf p (List.mem_of_mem_take hp)
    simp only [fitB, decide_eq_true_eq] at this
    exact sq_range (by omega) (by omega))
  have hlen : ((ps.take k).map (sqW ws wd)).length ≤ 1000 := by rw [List.length_map, List.length_take]; omega
  exact ⟨h.1, by unfold badN; omega⟩
def bdR (ws : List ByteArray) (wd : Int) (bs : List Int) : Int × Int :=
  if codeL ws wd bs = 0 then (badN ws wd (pairsW ws.length bs) ((pairsW ws.length bs).length - 1), 0) else (0, codeL ws wd bs)

theorem rises_at {hi : Int} : ∀ (bs : List Int) (lo : Int) (a k : Nat) (x : Int), risesB hi lo bs = true → (a : Int) < lo → bs[k]? = some x → (endN a (bs.take k) : Int) < x ∧ x ≤ hi
  | [], _, _, _, _, _, _, h => by simp at h
  | e :: r, lo, a, 0, x, h1, h2, h3 => by
    simp only [risesB, Bool.and_eq_true] at h1
    have he := inR_iff.1 h1.1
    simp at h3
    subst h3
    simp [endN]
    omega
  | e :: r, lo, a, k + 1, x, h1, h2, h3 => by
    simp only [risesB, Bool.and_eq_true] at h1
    have he := inR_iff.1 h1.1
    have := rises_at r (e + 1) e.toNat k x h1.2 (by omega) (by simpa using h3)
    simpa [endN] using this
theorem rises_to {hi : Int} : ∀ (bs : List Int) (lo : Int) (a k : Nat), risesB hi lo bs = true → 0 ≤ lo → (a : Int) ≤ hi → (endN a (bs.take k) : Int) ≤ hi
  | [], _, a, _, _, _, h => by simpa [endN] using h
  | e :: r, lo, a, 0, _, _, h => by simpa [endN] using h
  | e :: r, lo, a, k + 1, h1, h2, h3 => by
    simp only [risesB, Bool.and_eq_true] at h1
    have he := inR_iff.1 h1.1
    have := rises_to r (e + 1) e.toNat k h1.2 (by omega) (by omega)
    simpa [endN] using this
set_option maxRecDepth 100000 in
set_option maxHeartbeats 3200000 in
theorem lines9_spec (A : Option Addr) (n c b off : Nat) (hA : 0 < n → A = some ⟨b, off, none⟩) (B : Option Addr) (k0 c0 : Nat) (bs : List Int) (hr : risesB ((n : Int) - 1) 1 bs = true) (hn : n ≤ 1000) (hc : n ≤ c) (w : World) (h : Ints w B k0 bs) :
    Calls Try.prog 45 #[.slice A n c, .slice B k0 c0] w fun e w' => ∃ v, e = .returned v ∧ w'.ownsRow w.heap.size 22 1 v (pairsW n bs).length ((pairsW n bs).flatMap (viewC b off c)) ∧ Below w.heap.size w w' := by
  have hl := Lib.hid h.1
  obtain ⟨hpl, hpo, hp0, hbl, hpl1⟩ := pairs_ok hr
  rw [hl.out] at hbl
  obtain ⟨i0, hi, hz0, hz1, hz2⟩ := info_parts Try.infoStrS
  have hr0 := Lib.hid hr
  clear hr
  by_cases hn0 : n = 0
  · obtain rfl := hp0 hn0
    obtain rfl : k0 = 0 := hl.out.symm
    subst hn0
    clear hpo hp0 hpl1
    go_enter Try.func45, Try.ntmps45
    go_wp2
    go_loopw [5, 6, 7] (fun v a i wr => v = .slice (some ⟨w.heap.size, 0, none⟩) 0 0 ∧ a = .int .i64 0 ∧ i = .int .i64 0 ∧ wr = w.alloc (.cells #[] 22)) (fun _ _ i _ => 0)
    case atStart => exact ⟨rfl, rfl, rfl, rfl⟩
    case round =>
      rename World => wr
      obtain ⟨rfl, rfl, rfl, rfl⟩ := hrel
      go_wp2
      go_ret
      exact ⟨_, rfl, owns_new8 w _, below_a1 _ _⟩
  · have hA := hA (by omega)
    subst hA
    have hpw : Hid (pairsW n bs = prsL 0 (bs ++ [(n : Int)])) := Lib.hid (by rw [pairsW, if_neg hn0])
    have hat := Lib.hid (fun k x hx => rises_at bs 1 0 k x hr0.out (by omega) hx)
    have hto := Lib.hid (fun k => rises_to bs 1 0 k hr0.out (by omega) (by omega))
    clear hpo hp0
    go_enter Try.func45, Try.ntmps45
    go_wp2
    go_loopw [5, 6, 7] (fun v a i wr => ∃ k : Nat, k ≤ k0 ∧ i = .int .i64 (k : Int) ∧ a = .int .i64 (endN 0 (bs.take k) : Int) ∧ Below w.heap.size w wr ∧ wr.ownsRow w.heap.size 22 1 v k ((prsL 0 (bs.take k)).flatMap (viewC b off c))) (fun _ _ i _ => k0 - (intOf i).toNat)
    case atStart => exact ⟨0, by omega, rfl, rfl, below_a1 _ _, owns_new8 w _⟩
    case round =>
      rename World => wr
      obtain ⟨k, hk, rfl, rfl, hbw, hrow⟩ := hrel
      have hwz := hbw.size
      have hto1 := hto.out k
      by_cases hlt : k < k0
      · obtain ⟨bb, bo, x, rfl, hbb, hx, c1⟩ := int_at (h.below hbw) hlt
        have hbb0 : bb < w.heap.size := by obtain ⟨b2, o2, x2, e2, hb2, _⟩ := int_at h hlt; cases e2; exact hb2
        obtain ⟨ha1, ha2⟩ := hat.out k x hx.out
        have hsn := Lib.hid (show (prsL 0 (bs.take (k + 1))).flatMap (viewC b off c) = (prsL 0 (bs.take k)).flatMap (viewC b off c) ++ [.slice (some ⟨b, off + endN 0 (bs.take k), none⟩) (x.toNat - endN 0 (bs.take k)) (c - endN 0 (bs.take k))] by rw [take8 hx.out, prs_snoc, snoc9])
        have hen := Lib.hid (show endN 0 (bs.take (k + 1)) = x.toNat by rw [take8 hx.out, end_snoc])
        generalize endN 0 (bs.take k) = f at *
        obtain ⟨e, rfl⟩ : ∃ e : Nat, x = (e : Int) := ⟨x.toNat, by omega⟩
        rw [Int.toNat_natCast] at hsn hen
        have hfe : f ≤ e := by omega
        have hec : e ≤ c := by omega
        have hrl := Lib.hid hrow
        clear hrow
        go_wp2_with (at_builtin; refine wpList_append_own _ rfl _ _ 50 rfl w.heap.size 22 i0 _ 1 24 Try.underlying50 hi hz0 hz1 hz2 rfl (by decide) _ _ _ rfl (hrl.out.alloc _) ⟨wr.heap.size, 0, none⟩ 1 1 [.slice (some ⟨b, off + f, none⟩) (e - f) (c - f)] rfl rfl (news8 _ _ _) (one9 _ _ _) (by unfold maxLen; omega) (by omega) (by simp; omega) ?_)
        intro vqq wqq hownqq hgrqq hnilqq
        have hgqqq := grown_trans (grown_below (below_a1 wr _) _) hgrqq
        clear hgrqq hnilqq
        have hq : Hid (wqq.ownsRow w.heap.size 22 1 vqq (k + 1) ((prsL 0 (bs.take (k + 1))).flatMap (viewC b off c)) ∧ Below w.heap.size w wqq) := Lib.hid ⟨by rw [hsn.out]; exact hownqq, hbw.grown hgqqq hwz (fun j hj => owns_ge8 hrl.out hj)⟩
        clear hownqq hgqqq
        have c2 := (hq.out.2.cell (p := ⟨bb, bo + k, none⟩) hbb0).trans ((hbw.cell (p := ⟨bb, bo + k, none⟩) hbb0).symm.trans c1)
        clear c1 hrl
        go_wp2
        go_roundw
        case rel => exact ⟨k + 1, by omega, by go_num, by rw [hen.out], hq.out.2, hq.out.1⟩
        case measure => simp [intOf]; omega
      · obtain rfl : k = k0 := by omega
        have hall : bs.take k = bs := List.take_of_length_le (by rw [hl.out]; omega)
        rw [hall] at hrow hto1
        rw [hall]
        have hsn := Lib.hid (show (pairsW n bs).flatMap (viewC b off c) = (prsL 0 bs).flatMap (viewC b off c) ++ [.slice (some ⟨b, off + endN 0 bs, none⟩) (n - endN 0 bs) (c - endN 0 bs)] by rw [hpw.out, prs_snoc, snoc9, Int.toNat_natCast])
        have hln := Lib.hid (show (pairsW n bs).length = k + 1 by rw [hpl1 (by omega), hl.out])
        generalize endN 0 bs = f at *
        have hfn : f ≤ n := by omega
        have hfc : f ≤ c := by omega
        have hn1 : decide (0 < n) = true := decide_eq_true (by omega)
        have hn2 : (0 : Int) < (n : Int) := by omega
        have hrl := Lib.hid hrow
        clear hrow hall hpl1 hpl
        go_wp2_with (at_builtin; refine wpList_append_own _ rfl _ _ 50 rfl w.heap.size 22 i0 _ 1 24 Try.underlying50 hi hz0 hz1 hz2 rfl (by decide) _ _ _ rfl (hrl.out.alloc _) ⟨wr.heap.size, 0, none⟩ 1 1 [.slice (some ⟨b, off + f, none⟩) (n - f) (c - f)] rfl rfl (news8 _ _ _) (one9 _ _ _) (by unfold maxLen; omega) (by omega) (by simp; omega) ?_)
        intro vqq wqq hownqq hgrqq hnilqq
        have hgqqq := grown_trans (grown_below (below_a1 wr _) _) hgrqq
        clear hgrqq hnilqq
        have hq : Hid (wqq.ownsRow w.heap.size 22 1 vqq (k + 1) ((pairsW n bs).flatMap (viewC b off c)) ∧ Below w.heap.size w wqq) := Lib.hid ⟨by rw [hsn.out]; exact hownqq, hbw.grown hgqqq hwz (fun j hj => owns_ge8 hrl.out hj)⟩
        clear hownqq hgqqq
        clear hrl
        go_wp2
        go_ret
        refine ⟨_, rfl, ?_, hq.out.2⟩
        rw [hln.out]
        exact hq.out.1
theorem w9 {wd : Int} (h0 : 0 ≤ wd) : ∃ W : Nat, wd = (W : Int) := ⟨wd.toNat, by omega⟩
set_option maxRecDepth 100000 in
set_option maxHeartbeats 3200000 in
theorem code9_spec (A : Option Addr) (n c : Nat) (ws : List ByteArray) (wd : Int) (B : Option Addr) (k0 c0 : Nat) (bs : List Int) (w : World) (h : Strs w A n ws) (hB : Ints w B k0 bs) (hn : n ≤ 1048576) (hc : n ≤ c) (hk0 : k0 ≤ 1048576) (hg : ∀ x ∈ ws, x.size ≤ maxLen) {q : Int} (hq : codeL ws wd bs = q) :
    Calls Try.prog 44 #[.slice A n c, .int .i64 wd, .slice B k0 c0] w fun e w' => e = .returned (.int .i64 q) ∧ Below w.heap.size w w' := by
  have hl := Lib.hid h.1
  replace hq := Lib.hid hq
  cases h1 : okW ws wd with
  | false =>
    have hr : Hid (q = 1) := Lib.hid (by rw [← hq.out, codeL_1 h1])
    have hc1 := Lib.hid (ok9_spec A n c ws wd h1 w h hn hg)
    clear h1 hq h hg
    go_enter Try.func44, Try.ntmps44
    go_wp2_with fail
    refine hc1.out.mono ?_
    rintro e w1 ⟨rfl, rfl⟩
    go_wp2
    go_ret
    exact ⟨ret_i64 hr.out.symm, Below.refl _ _⟩
  | true =>
    have hc1 := Lib.hid (ok9_spec A n c ws wd h1 w h hn hg)
    obtain ⟨n40, w1, w80, hws⟩ := okW_ok h1
    rw [hl.out] at n40
    have hwr : IntKind.i64.wrap ((n : Int) - 1) = (n : Int) - 1 := IntWalk.i64_in _ (by omega)
    cases h2 : risesB ((n : Int) - 1) 1 bs with
    | false =>
      have hr : Hid (q = 2) := Lib.hid (by rw [← hq.out, codeL_2 h1 (by rw [hl.out]; exact h2)])
      have hc2 := Lib.hid (fun W hW => rises_spec B k0 c0 1 ((n : Int) - 1) bs h2 W hW hk0)
      clear h1 h2 hq h hg hws
      go_enter Try.func44, Try.ntmps44
      go_wp2_with fail
      refine hc1.out.mono ?_
      rintro e w1 ⟨rfl, rfl⟩
      go_wp2_with fail
      refine (hc2.out _ hB).mono ?_
      rintro e w2 ⟨rfl, hb2⟩
      go_wp2
      go_ret
      exact ⟨ret_i64 hr.out.symm, hb2⟩
    | true =>
      have hc2 := Lib.hid (fun W hW => rises_spec B k0 c0 1 ((n : Int) - 1) bs h2 W hW hk0)
      have hres : Hid (q = if (pairsW n bs).all (fitB ws wd) = true then 0 else 5) := Lib.hid (by rw [← hq.out, codeL_3 h1 (by rw [hl.out]; exact h2), hl.out])
      obtain ⟨hpl, hpo, hp0, hbl, hpl1⟩ := pairs_ok h2
      obtain ⟨b, off, hA⟩ : ∃ b off, 0 < n → A = some ⟨b, off, none⟩ := by
        by_cases h0 : 0 < n
        · obtain ⟨b, off, e, _⟩ := h.2 h0; exact ⟨b, off, fun _ => e⟩
        · exact ⟨0, 0, fun h => absurd h h0⟩
      have hc3 := Lib.hid (fun W hW => lines9_spec A n c b off hA B k0 c0 bs h2 (by omega) hc W hW)
      have hpo0 := Lib.hid hpo
      have hws0 := Lib.hid hws
      clear h1 h2 hq hg hws hpo hp0 hpl1
      go_enter Try.func44, Try.ntmps44
      go_wp2_with fail
      refine hc1.out.mono ?_
      rintro e w1 ⟨rfl, rfl⟩
      go_wp2_with fail
      refine (hc2.out _ hB).mono ?_
      rintro e w2 ⟨rfl, hb2⟩
      go_wp2_with fail
      refine (hc3.out _ (hB.below hb2)).mono ?_
      rintro e w3 ⟨v, rfl, hrow, hb3⟩
      obtain ⟨m, hm⟩ : ∃ m, (pairsW n bs).length = m := ⟨_, rfl⟩
      rw [hm] at hrow hpl
      obtain ⟨A', c', rfl, hO⟩ := owns_v9 hm hrow
      have hV := Lib.hid hO.srow
      have hS := (h.below hb2).below hb3
      have hb23 := hb2.step hb3
      replace hm := Lib.hid hm
      clear hrow hO hc1 hc2 hc3 hb2 hb3 h hB
      generalize pairsW n bs = ps at *
      go_wp2
      go_loopw [8] (fun i wr => ∃ k : Nat, k ≤ m ∧ i = .int .i64 (k : Int) ∧ w3 = wr ∧ ps.all (fitB ws wd) = (ps.drop k).all (fitB ws wd)) (fun i _ => m - (intOf i).toNat)
      case atStart => exact ⟨0, by omega, rfl, rfl, rfl⟩
      case round =>
        obtain ⟨k, hk, rfl, rfl, he⟩ := hrel
        replace he := Lib.hid he
        by_cases hlt : k < m
        · obtain ⟨g, o, p, rfl, hgl, hx, c1⟩ := view_at hV.out hlt
          obtain ⟨p1, p2⟩ := hpo0.out p (List.mem_of_getElem? hx.out)
          have hA := hA (by omega)
          subst hA
          have hlo := Lib.hid (long9_spec _ (p.2 - p.1) (c - p.1) (lineW ws p) (by omega) (fun x hx => by have := (hws0.out x (lineW_mem hx)).2.1; omega) rfl w3 (view_strs hS p1 p2))
          have hst := Lib.hid (all8_drop (p := fitB ws wd) hx.out)
          have hfb : fitB ws wd p = decide ((longN (lineW ws p) : Int) ≤ wd) := rfl
          generalize longN (lineW ws p) = LN at *
          by_cases hfit : (LN : Int) ≤ wd
          · have hnx : Hid (ps.all (fitB ws wd) = (ps.drop (k + 1)).all (fitB ws wd)) := Lib.hid (by rw [he.out, hst.out, hfb, decide_eq_true hfit]; rfl)
            have g1 : decide (wd < (LN : Int)) = false := decide_eq_false (by omega)
            clear hst hfb
            go_wp2_with fail
            refine hlo.out.mono ?_
            rintro e w' ⟨rfl, rfl⟩
            go_wp2
            go_roundw
            case rel => exact ⟨k + 1, by omega, by go_num, by trivial, hnx.out⟩
            case measure => simp [intOf]; omega
          · have hr : Hid (q = 5) := Lib.hid (by rw [hres.out, he.out, hst.out, hfb, decide_eq_false hfit]; rfl)
            have g1 : decide (wd < (LN : Int)) = true := decide_eq_true (by omega)
            clear hst hfb
            go_wp2_with fail
            refine hlo.out.mono ?_
            rintro e w' ⟨rfl, rfl⟩
            go_wp2
            go_ret
            exact ⟨ret_i64 hr.out.symm, hb23⟩
        · obtain rfl : k = m := by omega
          have hr : Hid (q = 0) := Lib.hid (by rw [hres.out, he.out, all8_end (by rw [hm.out]; exact Nat.le_refl _)]; rfl)
          go_wp2
          go_ret
          exact ⟨ret_i64 hr.out.symm, hb23⟩
end Go.Proofs.Ytcaojaaooadeaaa
