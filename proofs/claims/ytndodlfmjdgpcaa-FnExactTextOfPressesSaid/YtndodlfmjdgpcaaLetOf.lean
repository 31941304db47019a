/- LettersOf: the model's function and the program's. -/
import Derived.Test.YtndodlfmjdgpcaaMiss
namespace Go.Proofs.Ytndodlfmjdgpcaa
open Go.RowKit Go.ChangeMaps Go.MapKept
set_option linter.unusedVariables false
set_option linter.unusedSimpArgs false

theorem isLet_is {s : ByteArray} (h : isLet s = true) : ∃ z, s = ⟨#[z]⟩ ∧ z ∈ rng := by
  obtain ⟨⟨l⟩⟩ := s
  match l, h with
  | [c], h =>
    unfold isLet at h
    simp only [Bool.and_eq_true, decide_eq_true_eq] at h
    exact ⟨c, rfl, rng_mem h.1 h.2⟩
theorem one_inj {a b : UInt8} : (⟨#[a]⟩ : ByteArray) = ⟨#[b]⟩ ↔ a = b := ⟨fun h => by cases h; rfl, fun h => by rw [h]⟩
theorem okKeys_all {ks : List KeyD} (h : okKeys 0 [] ks = true) : ∀ k, k ≤ ks.length → okKeys k (ks.take k) (ks.drop k) = true
  | 0, _ => h
  | k + 1, hk => by
    have ih := okKeys_all h k (by omega)
    rw [okKeys_drop (List.getElem?_eq_getElem (show k < ks.length by omega)), Bool.and_eq_true] at ih
    exact ih.2
theorem okKeys_at {ks : List KeyD} (h : okKeys 0 [] ks = true) {k : Nat} {x : KeyD} (hx : ks[k]? = some x) : okKey (spots 0 (ks.take k)) x = true := by
  have h1 := (List.getElem?_eq_some_iff.1 hx).1
  have h2 := okKeys_all h k (by omega)
  rw [okKeys_drop hx, Bool.and_eq_true] at h2
  exact h2.1
theorem okKey_parts {S : List (ByteArray × SpotD)} {x : KeyD} (h : okKey S x = true) : isLet x.low = true ∧ isLet x.high = true ∧ look x.low S = none ∧ look x.high S = none := by
  unfold okKey at h
  simp only [Bool.and_eq_true, Option.isNone_iff_eq_none] at h
  exact ⟨h.1.1.1.1, h.1.1.1.2, h.1.2, h.2⟩
/-- The key of a letter is the only one. -/
theorem look_uniq {ks : List KeyD} (h : okKeys 0 [] ks = true) {k : Nat} {x : KeyD} (hx : ks[k]? = some x) {s : ByteArray} (hs : s = x.low ∨ s = x.high) : ∃ p, look s (spots 0 ks) = some p ∧ p.dead = x.dead := by
  obtain ⟨_, _, n1, n2⟩ := okKey_parts (okKeys_at h hx)
  obtain ⟨h1, e⟩ := List.getElem?_eq_some_iff.1 hx
  have hk : spots 0 ks = spots 0 (ks.take k) ++ spots k (ks.drop k) := by
    have := spots_append (ks.take k) (ks.drop k) 0
    rw [List.take_append_drop, List.length_take, Nat.min_eq_left (by omega), Nat.zero_add] at this
    exact this
  rw [hk, look_append, look_drop hx]
  rcases hs with rfl | rfl
  · rw [n1, if_pos rfl]
    exact ⟨_, rfl, rfl⟩
  · rw [n2]
    split
    · exact ⟨_, rfl, rfl⟩
    · rw [if_pos rfl]
      exact ⟨_, rfl, rfl⟩
def keyB (l : List KeyD) (c : UInt8) : Bool := l.any fun x => !x.dead && (decide ((⟨#[c]⟩ : ByteArray) = x.low) || decide ((⟨#[c]⟩ : ByteArray) = x.high))
def accB (l : List AccentD) (c : UInt8) : Bool := l.any fun a => decide (a.made = ⟨#[c]⟩)
theorem accB_is (c : UInt8) : ∀ l : List AccentD, accB l c = (accOf ⟨#[c]⟩ l).isSome
  | [] => rfl
  | a :: l => by
    have ih := accB_is c l
    unfold accB at ih ⊢
    rw [List.any_cons, accOf, ih]
    by_cases h : a.made = ⟨#[c]⟩
    · rw [if_pos h, decide_eq_true h]
      rfl
    · rw [if_neg h, decide_eq_false h, Bool.false_or]
theorem accPs_can (ks : List KeyD) (as_ : List AccentD) (s : ByteArray) : (!(accPs ks as_ s).isEmpty) = (accOf s as_).isSome := by
  unfold accPs
  cases accOf s as_ <;> rfl
theorem can_is {ks : List KeyD} {as_ : List AccentD} (hv : validKb ks as_ = true) (c : UInt8) : (keyB ks c || accB as_ c) = canB ks as_ ⟨#[c]⟩ := by
  have hok : okKeys 0 [] ks = true := by
    unfold validKb at hv
    simp only [Bool.and_eq_true] at hv
    exact hv.1.1.1
  have hk : keyB ks c = (match look ⟨#[c]⟩ (spots 0 ks) with | some p => !p.dead | none => false) := by
    cases hl : look ⟨#[c]⟩ (spots 0 ks) with
    | none =>
      rw [Bool.eq_false_iff]
      intro hb
      obtain ⟨x, hx, hb⟩ := List.any_eq_true.1 hb
      rw [Bool.and_eq_true, Bool.or_eq_true, decide_eq_true_eq, decide_eq_true_eq] at hb
      obtain ⟨k, hk⟩ := List.getElem?_of_mem hx
      obtain ⟨p, hp, _⟩ := look_uniq hok hk hb.2
      rw [hl] at hp
      cases hp
    | some p =>
      simp only
      cases hd : p.dead with
      | false =>
        obtain ⟨x, _, hx, hxd, hs⟩ := look_some ks 0 hl
        refine List.any_eq_true.2 ⟨x, List.mem_of_getElem? hx, ?_⟩
        rw [Bool.and_eq_true, Bool.or_eq_true, decide_eq_true_eq, decide_eq_true_eq, ← hxd, hd]
        refine ⟨rfl, ?_⟩
        split at hs
        · exact .inr hs
        · exact .inl hs
      | true =>
        show keyB ks c = false
        rw [Bool.eq_false_iff]
        intro hb
        obtain ⟨x, hx, hb⟩ := List.any_eq_true.1 hb
        rw [Bool.and_eq_true, Bool.or_eq_true, decide_eq_true_eq, decide_eq_true_eq] at hb
        obtain ⟨k, hk⟩ := List.getElem?_of_mem hx
        obtain ⟨q, hq, hqd⟩ := look_uniq hok hk hb.2
        rw [hl] at hq
        cases hq
        rw [← hqd, hd] at hb
        exact absurd hb.1 (by decide)
  rw [hk, accB_is, canB, pressesL]
  cases hl : look ⟨#[c]⟩ (spots 0 ks) with
  | none =>
    simp only [Bool.false_or]
    exact (accPs_can _ _ _).symm
  | some p =>
    simp only
    cases hd : p.dead with
    | false => simp
    | true =>
      simp only [Bool.not_true, Bool.false_or, if_true]
      exact (accPs_can _ _ _).symm
theorem keyB_dead {l : List KeyD} {k : Nat} {x : KeyD} (h : l[k]? = some x) (hd : x.dead = true) : rng.filter (keyB (l.take (k + 1))) = rng.filter (keyB (l.take k)) := List.filter_congr fun c _ => by
  obtain ⟨h1, rfl⟩ := List.getElem?_eq_some_iff.1 h
  unfold keyB
  rw [List.take_succ_eq_append_getElem h1, List.any_append]
  simp [hd]
theorem keyB_put {l : List KeyD} {k : Nat} {x : KeyD} {a b : UInt8} (h : l[k]? = some x) (hd : x.dead = false) (h1 : x.low = ⟨#[a]⟩) (h2 : x.high = ⟨#[b]⟩) (m1 : a ∈ rng) (m2 : b ∈ rng) : rng.filter (keyB (l.take (k + 1))) = putL b (putL a (rng.filter (keyB (l.take k)))) := by
  rw [rng_put m1, rng_put m2]
  refine List.filter_congr fun c _ => ?_
  obtain ⟨hk, rfl⟩ := List.getElem?_eq_some_iff.1 h
  unfold keyB
  rw [List.take_succ_eq_append_getElem hk, List.any_append, List.any_cons, List.any_nil, Bool.or_false, hd, h1, h2, Bool.not_false, Bool.true_and, ← Bool.or_assoc]
  congr 1
  · congr 1
    rw [Bool.eq_iff_iff, decide_eq_true_eq, beq_iff_eq, one_inj]
  · rw [Bool.eq_iff_iff, decide_eq_true_eq, beq_iff_eq, one_inj]
theorem accB_put {l : List AccentD} {k : Nat} {x : AccentD} {a : UInt8} {p : UInt8 → Bool} (h : l[k]? = some x) (h1 : x.made = ⟨#[a]⟩) (m1 : a ∈ rng) : rng.filter (fun c => p c || accB (l.take (k + 1)) c) = putL a (rng.filter (fun c => p c || accB (l.take k) c)) := by
  rw [rng_put m1]
  refine List.filter_congr fun c _ => ?_
  obtain ⟨hk, rfl⟩ := List.getElem?_eq_some_iff.1 h
  unfold accB
  rw [List.take_succ_eq_append_getElem hk, List.any_append, List.any_cons, List.any_nil, Bool.or_false, h1, ← Bool.or_assoc]
  congr 1
  rw [Bool.eq_iff_iff, decide_eq_true_eq, beq_iff_eq, one_inj]
  exact ⟨fun h => h.symm, fun h => h.symm⟩
theorem ret_ls {l m : List UInt8} {k : Int} (h : l = m) : Ending.returned (.tuple #[.string ⟨l.toArray⟩, .int .i64 k]) = .returned (.tuple #[.string ⟨m.toArray⟩, .int .i64 k]) := by rw [h]
def lettersR (ks : List KeyD) (as_ : List AccentD) : ByteArray × Int := if validKb ks as_ = true then (⟨(rng.filter fun c => canB ks as_ ⟨#[c]⟩).toArray⟩, 0) else (ByteArray.empty, 1)
theorem put_is (f : UInt8 → Bool) (z : UInt8) (w : World) : Calls Try.prog 93 #[.string ⟨(rng.filter f).toArray⟩, .string ⟨#[z]⟩] w fun e w' => e = .returned (.string ⟨(putL z (rng.filter f)).toArray⟩) ∧ Below w.heap.size w w' := by
  have h := put_spec ⟨(rng.filter f).toArray⟩ z w (by
    show (List.toArray _).size ≤ 1048576
    have := rng_filter_length f
    rw [List.size_toArray]
    omega)
  simpa using h

set_option maxRecDepth 100000 in
set_option maxHeartbeats 3200000 in
theorem lof_spec (A : Option Addr) (n c : Nat) (ks : List KeyD) (B : Option Addr) (m d : Nat) (as_ : List AccentD) (w : World) (h : Keys w A n ks) (hn : n ≤ 1048576) (hgk : ∀ x ∈ ks, x.good) (hAs : Accents w B m as_) (hm : m ≤ 1048576) (hga : ∀ x ∈ as_, x.good) :
    Calls Try.prog 51 #[.slice A n n, .slice B m m] w fun e w' => e = .returned (.tuple #[.string (lettersR ks as_).1, .int .i64 (lettersR ks as_).2]) ∧ Below w.heap.size w w' := by
  have hcode := ok_keys A B n n m m ks as_ w h hAs hn hm (Nat.le_refl _) hgk hga
  cases hv : validKb ks as_ with
  | false =>
    have hres : Hid (lettersR ks as_ = (ByteArray.empty, 1)) := Lib.hid (by rw [lettersR, if_neg (by simp [hv])])
    rw [hv] at hcode
    rw [hres.out]
    replace hcode := Lib.hid hcode
    clear hv
    go_enter Try.func51, Try.ntmps51
    go_wp2_with fail
    refine hcode.out.mono ?_
    rintro e w1 ⟨rfl, hb1⟩
    go_wp2
    go_ret2
    exact ⟨rfl, hb1⟩
  | true =>
    have hcs := Lib.hid (can_is hv)
    have hok : okKeys 0 [] ks = true := by
      unfold validKb at hv
      simp only [Bool.and_eq_true] at hv
      exact hv.1.1.1
    have hacc : okAccs (spots 0 ks) [] as_ = true := by
      unfold validKb at hv
      simp only [Bool.and_eq_true] at hv
      exact hv.1.1.2
    have hkl : ∀ (k : Nat) (x : KeyD), ks[k]? = some x → ∃ a b : UInt8, x.low = ⟨#[a]⟩ ∧ x.high = ⟨#[b]⟩ ∧ a ∈ rng ∧ b ∈ rng := fun k x hx => by
      obtain ⟨i1, i2, _, _⟩ := okKey_parts (okKeys_at hok hx)
      obtain ⟨a, e1, m1⟩ := isLet_is i1
      obtain ⟨b, e2, m2⟩ := isLet_is i2
      exact ⟨a, b, e1, e2, m1, m2⟩
    have hal : ∀ (k : Nat) (x : AccentD), as_[k]? = some x → ∃ a : UInt8, x.made = ⟨#[a]⟩ ∧ a ∈ rng := fun k x hx => by
      have h1 := okAccs_mem as_ [] hacc (List.mem_of_getElem? hx)
      unfold okAcc at h1
      simp only [Bool.and_eq_true] at h1
      exact isLet_is h1.2
    have hres : Hid (lettersR ks as_ = (⟨(rng.filter fun c => canB ks as_ ⟨#[c]⟩).toArray⟩, 0)) := Lib.hid (by rw [lettersR, if_pos hv])
    rw [hv] at hcode
    rw [hres.out]
    replace hcode := Lib.hid hcode
    replace hkl := Lib.hid hkl
    replace hal := Lib.hid hal
    clear hv hok hacc
    go_enter Try.func51, Try.ntmps51
    go_wp2_with fail
    refine hcode.out.mono ?_
    rintro e w1 ⟨rfl, hb1⟩
    have hK := h.below hb1
    have hA1 := hAs.below hb1
    clear h hAs
    go_wp2
    go_loopw [6, 7] (fun v i wr => ∃ k : Nat, k ≤ n ∧ i = .int .i64 k ∧ v = .string ⟨(rng.filter (keyB (ks.take k))).toArray⟩ ∧ Below w1.heap.size w1 wr) (fun _ i _ => n - (intOf i).toNat)
    case atStart => exact ⟨0, by omega, rfl, by rw [show rng.filter (keyB (ks.take 0)) = [] from List.filter_eq_nil_iff.2 (fun a _ => by simp [keyB])], Below.refl _ _⟩
    case round =>
      obtain ⟨k, hk, rfl, rfl, hbo⟩ := hrel
      by_cases hlt : k < n
      · obtain ⟨bb, off, x, rfl, hb, hx, g0, g1, g2⟩ := key_at (hK.below hbo) hlt
        have hk0 : (0 : Int) ≤ (k : Int) := Int.natCast_nonneg _
        have hk1 : (k : Int) < (n : Int) := by omega
        cases hd : x.dead with
        | true =>
          have hnx := Lib.hid (keyB_dead hx.out hd)
          rw [hd] at g2
          clear hd
          go_wp2
          go_roundw
          case rel => exact ⟨k + 1, by omega, by go_num, by rw [hnx.out], hbo⟩
          case measure => simp [intOf]; omega
        | false =>
          obtain ⟨a, b, e1, e2, m1, m2⟩ := hkl.out k x hx.out
          have hnx := Lib.hid (keyB_put hx.out hd e1 e2 m1 m2)
          rw [hd] at g2
          rw [e1] at g0
          rw [e2] at g1
          have hp1 := Lib.hid (put_is (keyB (ks.take k)) a wr)
          have hp2 := fun W => put_is (fun c => keyB (ks.take k) c || c == a) b W
          rw [← rng_put m1] at hp2
          rw [← hnx.out] at hp2
          replace hp2 := Lib.hid hp2
          clear hd e1 e2 m1 m2 hx
          go_wp2_with fail
          refine hp1.out.mono ?_
          rintro e w2 ⟨rfl, hb2⟩
          have d1 := cell_step g1 hb2
          go_wp2_with fail
          refine (hp2.out _).mono ?_
          rintro e w3 ⟨rfl, hb3⟩
          go_wp2
          go_roundw
          case rel => exact ⟨k + 1, by omega, by go_num, rfl, (hbo.step hb2).step hb3⟩
          case measure => simp [intOf]; omega
      · obtain rfl : k = n := by omega
        have hT : ks.take k = ks := List.take_of_length_le (by rw [hK.1]; exact Nat.le_refl _)
        rw [hT]
        have hbo' := hbo
        rename World => wo
        have hA2 := hA1.below hbo
        go_wp2
        go_loopw [6, 8] (fun v i wr => ∃ j : Nat, j ≤ m ∧ i = .int .i64 j ∧ v = .string ⟨(rng.filter (fun c => keyB ks c || accB (as_.take j) c)).toArray⟩ ∧ Below wo.heap.size wo wr) (fun _ i _ => m - (intOf i).toNat)
        case atStart => exact ⟨0, by omega, rfl, by rw [show (fun c => keyB ks c || accB (as_.take 0) c) = keyB ks from funext fun c => by simp [accB]], Below.refl _ _⟩
        case round =>
          obtain ⟨j, hj, rfl, rfl, hbq⟩ := hrel
          by_cases hlt2 : j < m
          · obtain ⟨bb, off, x, rfl, hb, hx, g0, g1, g2⟩ := accent_at (hA2.below hbq) hlt2
            have hj0 : (0 : Int) ≤ (j : Int) := Int.natCast_nonneg _
            have hj1 : (j : Int) < (m : Int) := by omega
            obtain ⟨a, e1, m1⟩ := hal.out j x hx.out
            have hnx := Lib.hid (accB_put (p := keyB ks) hx.out e1 m1)
            rename World => wq
            have hp1 := put_is (fun c => keyB ks c || accB (as_.take j) c) a wq
            rw [← hnx.out] at hp1
            replace hp1 := Lib.hid hp1
            rw [e1] at g2
            clear e1 m1 hx
            go_wp2_with fail
            refine hp1.out.mono ?_
            rintro e w3 ⟨rfl, hb3⟩
            go_wp2
            go_roundw
            case rel => exact ⟨j + 1, by omega, by go_num, rfl, hbq.step hb3⟩
            case measure => simp [intOf]; omega
          · obtain rfl : j = m := by omega
            have hT2 : as_.take j = as_ := List.take_of_length_le (by rw [hA2.1]; exact Nat.le_refl _)
            have hfin : Hid (rng.filter (fun c => keyB ks c || accB (as_.take j) c) = rng.filter fun c => canB ks as_ ⟨#[c]⟩) := Lib.hid (List.filter_congr fun c _ => by rw [hT2, hcs.out c])
            go_wp2
            go_ret2
            exact ⟨ret_ls hfin.out, (hb1.trans (hbo.mono hb1.size)).trans (hbq.mono (Nat.le_trans hb1.size hbo.size))⟩

set_option maxRecDepth 100000 in
set_option maxHeartbeats 3200000 in
theorem lof_impl (A : Option Addr) (n c : Nat) (ks : List KeyD) (B : Option Addr) (m d : Nat) (as_ : List AccentD) (w : World) (h : Keys w A n ks) (hn : n ≤ 1048576) (hgk : ∀ x ∈ ks, x.good) (hAs : Accents w B m as_) (hm : m ≤ 1048576) (hga : ∀ x ∈ as_, x.good) :
    Calls Try.prog 52 #[.slice A n n, .slice B m m] w fun e w' => e = .returned (.tuple #[.string (lettersR ks as_).1, .int .i64 (lettersR ks as_).2]) ∧ Below w.heap.size w w' := by
  have hmf : ∀ (fn : Fn) (first cap : Array Value) (w : World), (Instr.makeFunc fn first cap).run Try.prog w = .ok (.func fn first cap) w := fun _ _ _ _ => rfl
  cases hv : validKb ks as_ with
  | false =>
    have hres : Hid (lettersR ks as_ = (ByteArray.empty, 1)) := Lib.hid (by rw [lettersR, if_neg (by simp [hv])])
    have hkb := Lib.hid (kb_no A B n n m m ks as_ _ h hAs hn hm hgk hga hv)
    rw [hres.out]
    clear hv
    go_enter Try.func52, Try.ntmps52
    go_wp2_with fail
    refine hkb.out.mono ?_
    rintro e w1 ⟨x1, x2, x3, rfl, hb1⟩
    go_wp2
    go_ret2
    exact ⟨rfl, hb1.step (below_a1 _ _)⟩
  | true =>
    have hres : Hid (lettersR ks as_ = (⟨(rng.filter fun c => canB ks as_ ⟨#[c]⟩).toArray⟩, 0)) := Lib.hid (by rw [lettersR, if_pos hv])
    have hkb := Lib.hid (kb_yes A B n n m m ks as_ _ h hAs hn hm hgk hga hv)
    rw [hres.out]
    replace hv := Lib.hid hv
    go_enter Try.func52, Try.ntmps52
    go_wp2_with fail
    refine hkb.out.mono ?_
    rintro e w1 ⟨r1, r2, r3, rfl, hb1, hkis⟩
    go_wp2_with fail
    obtain ⟨wb, hwb⟩ : ∃ W, w1.alloc (.cells #[.map (some r1), .map (some r2), .map (some r3)] 99) = W := ⟨_, rfl⟩
    have hbb : Below w.heap.size w wb := hwb ▸ hb1.step (below_a1 _ _)
    have hkb1 : KbIs wb r1 r2 r3 ks as_ := hwb ▸ hkis.below (below_a1 _ _)
    have hw := Lib.hid (with_can (fun c => canB ks as_ ⟨#[c]⟩) (.agg #[.map (some r1), .map (some r2), .map (some r3)]) undef wb (fun c _ W hW => can_impl r1 r2 r3 ks as_ ⟨#[c]⟩ W (hkb1.below hW) hv.out (by show 1 ≤ 1048576; omega)))
    rw [hwb]
    clear hwb
    refine hw.out.mono ?_
    rintro e w2 ⟨rfl, hb2⟩
    go_wp2
    go_ret2
    exact ⟨rfl, hbb.step2 hb2 hbb.size⟩
end Go.Proofs.Ytndodlfmjdgpcaa
