/- The program's keyboard: an accent that is put into its maps. -/
import Derived.Test.YtndodlfmjdgpcaaOwn0
import Derived.Test.YtndodlfmjdgpcaaKbAdd
namespace Go.Proofs.Ytndodlfmjdgpcaa
open Go.RowKit Go.ChangeMaps Go.MapKept
set_option linter.unusedVariables false
set_option linter.unusedSimpArgs false

def madeL (as_ : List AccentD) : List ((ByteArray × ByteArray) × Value) := as_.map fun a => ((a.mark, a.letter), .string a.made)
def overL (as_ : List AccentD) : List (ByteArray × Value) := as_.map fun a => (a.made, .agg #[.string a.mark, .string a.letter])
theorem MapIs.on {κ : Type} [DecidableEq κ] {enc : κ → Value} {w : World} {r : Nat} {l : List (κ × Value)} (h : MapIs enc w r l) (o : Obj) : MapIs enc (w.alloc o) r l := h.below (below_a1 _ _) h.lt
theorem MapIs.grown {κ : Type} [DecidableEq κ] {enc : κ → Value} {w w' : World} {r : Nat} {l : List (κ × Value)} (h : MapIs enc w r l) {q : Nat} (g : w.grownBy w' (some q)) (hne : r ≠ q) : MapIs enc w' r l := h.block (g.block r h.lt (by simpa using hne))
/-- Nothing has turned but blocks a and b. -/
structure Kept2 (a b : Nat) (w w' : World) : Prop where
  os : w'.os = w.os
  tape : w'.tape = w.tape
  output : w'.output = w.output
  size : w.heap.size ≤ w'.heap.size
  block : ∀ k, k < w.heap.size → k ≠ a → k ≠ b → w'.heap[k]? = w.heap[k]?
theorem Kept2.refl (a b : Nat) (w : World) : Kept2 a b w w := ⟨rfl, rfl, rfl, Nat.le_refl _, fun _ _ _ _ => rfl⟩
theorem Kept2.of {a b : Nat} {w w' : World} (h : Below w.heap.size w w') : Kept2 a b w w' := ⟨h.os, h.tape, h.output, h.size, fun k hk _ _ => h.block k hk⟩
theorem Kept2.trans {a b : Nat} {x y z : World} (h : Kept2 a b x y) (g : Kept2 a b y z) : Kept2 a b x z :=
  ⟨g.os.trans h.os, g.tape.trans h.tape, g.output.trans h.output, Nat.le_trans h.size g.size, fun k hk h1 h2 => (g.block k (Nat.lt_of_lt_of_le hk h.size) h1 h2).trans (h.block k hk h1 h2)⟩
theorem Kept2.left {a b : Nat} {x y : World} (g : x.grownBy y (some a)) : Kept2 a b x y := ⟨g.os, g.tape, g.output, g.size, fun k hk h1 _ => g.block k hk (by simpa using h1)⟩
theorem Kept2.right {a b : Nat} {x y : World} (g : x.grownBy y (some b)) : Kept2 a b x y := ⟨g.os, g.tape, g.output, g.size, fun k hk _ h2 => g.block k hk (by simpa using h2)⟩
theorem Kept2.below {a b B : Nat} {x y z : World} (h : Below B x y) (g : Kept2 a b y z) (hB : B ≤ y.heap.size) (ha : B ≤ a) (hb : B ≤ b) : Below B x z :=
  h.trans ⟨g.os, g.tape, g.output, g.size, fun k hk => g.block k (by omega) (by omega) (by omega)⟩
theorem Kept2.cell {a b : Nat} {w w' : World} (g : Kept2 a b w w') {p : Addr} {v : Value} (h : w.cell? p = some v) (h1 : p.block ≠ a) (h2 : p.block ≠ b) : w'.cell? p = some v :=
  (World.cell?_of_block (g.block p.block (World.block_lt_of_cell? w p h) h1 h2)).trans h

set_option maxRecDepth 100000 in
set_option maxHeartbeats 1600000 in
theorem addAccent_core (r1 r2 r3 : Nat) (x : AccentD) (S : List (ByteArray × SpotD)) (bs : List AccentD) (b1 s1 d1 b2 s2 d2 b3 s3 d3 b4 b5 li v : Bool) (i1 i2 i3 : Int) (o1 o2 o3 : ByteArray) (w : World) (hs : x.made.size ≤ maxLen)
    (h1 : MapIs Value.string w r1 (spotL S)) (h2 : MapIs pairKey w r2 (madeL bs)) (h3 : MapIs Value.string w r3 (overL bs)) (n12 : r1 ≠ r2) (n13 : r1 ≠ r3) (n23 : r2 ≠ r3)
    (e1 : (valOf x.mark (spotL S)).getD (.agg #[.int .i64 0, .bool false, .bool false]) = .agg #[.int .i64 i1, .bool s1, .bool d1]) (k1 : (valOf x.mark (spotL S)).isSome = b1)
    (e2 : (valOf x.letter (spotL S)).getD (.agg #[.int .i64 0, .bool false, .bool false]) = .agg #[.int .i64 i2, .bool s2, .bool d2]) (k2 : (valOf x.letter (spotL S)).isSome = b2)
    (e3 : (valOf x.made (spotL S)).getD (.agg #[.int .i64 0, .bool false, .bool false]) = .agg #[.int .i64 i3, .bool s3, .bool d3]) (k3 : (valOf x.made (spotL S)).isSome = b3)
    (e4 : (valOf x.made (overL bs)).getD (.agg #[.string ByteArray.empty, .string ByteArray.empty]) = .agg #[.string o1, .string o2]) (k4 : (valOf x.made (overL bs)).isSome = b4)
    (e5 : (valOf (x.mark, x.letter) (madeL bs)).getD (.string ByteArray.empty) = .string o3) (k5 : (valOf (x.mark, x.letter) (madeL bs)).isSome = b5)
    (hl : isLet x.made = li) (hv : (b1 && d1 && b2 && !d2 && li && !b3 && !b4 && !b5) = v) :
    Calls Try.prog 106 #[.agg #[.map (some r1), .map (some r2), .map (some r3)], .agg #[.string x.mark, .string x.letter, .string x.made]] w fun e w' => e = .returned (.bool v) ∧ Kept2 r2 r3 w w' ∧
      MapIs Value.string w' r1 (spotL S) ∧ MapIs pairKey w' r2 (madeL (if v = true then bs ++ [x] else bs)) ∧ MapIs Value.string w' r3 (overL (if v = true then bs ++ [x] else bs)) := by
  replace e1 := Lib.hid e1
  replace e2 := Lib.hid e2
  replace e3 := Lib.hid e3
  replace e4 := Lib.hid e4
  replace e5 := Lib.hid e5
  replace k1 := Lib.hid k1
  replace k2 := Lib.hid k2
  replace k3 := Lib.hid k3
  replace k4 := Lib.hid k4
  replace k5 := Lib.hid k5
  replace hl := Lib.hid hl
  by_cases hearly : (b1 && d1 && b2 && !d2) = true
  · obtain ⟨⟨⟨rfl, rfl⟩, rfl⟩, rfl⟩ : ((b1 = true ∧ d1 = true) ∧ b2 = true) ∧ d2 = false := by
      cases b1 <;> cases d1 <;> cases b2 <;> cases d2 <;> simp_all
    clear hearly
    have hv' : (li && !b3 && !b4 && !b5) = v := by rw [← hv]; rfl
    clear hv
    by_cases hlate : (li && !b3 && !b4 && !b5) = true
    · obtain ⟨⟨⟨rfl, rfl⟩, rfl⟩, rfl⟩ : ((li = true ∧ b3 = false) ∧ b4 = false) ∧ b5 = false := by
        cases li <;> cases b3 <;> cases b4 <;> cases b5 <;> simp_all
      obtain rfl : v = true := hv'.symm
      clear hv' hlate
      have hn2 : Hid (valOf (x.mark, x.letter) (madeL bs) = none) := Lib.hid (by have := k5.out; simpa using this)
      have hn3 : Hid (valOf x.made (overL bs) = none) := Lib.hid (by have := k4.out; simpa using this)
      go_enter Try.func106, Try.ntmps106
      go_wp2_with (first | (at_lookup; refine wpList_look_is rfl _ _ _ 9 124 rfl strKey Try.underlying95 (zero_spot _) rfl (by repeat (first | exact h1 | refine MapIs.on ?_ _)) x.mark rfl e1.out k1.out ?_) | (at_lookup; refine wpList_look_is rfl _ _ _ 9 124 rfl strKey Try.underlying95 (zero_spot _) rfl (by repeat (first | exact h1 | refine MapIs.on ?_ _)) x.letter rfl e2.out k2.out ?_) | (at_lookup; refine wpList_look_is rfl _ _ _ 9 124 rfl strKey Try.underlying95 (zero_spot _) rfl (by repeat (first | exact h1 | refine MapIs.on ?_ _)) x.made rfl e3.out k3.out ?_) | (at_lookup; refine wpList_look_is rfl _ _ _ 9 109 rfl strKey Try.underlying97 (zero_over _) rfl (by repeat (first | exact h3 | refine MapIs.on ?_ _)) x.made rfl e4.out k4.out ?_) | (at_lookup; refine wpList_look_is rfl _ _ _ 109 9 rfl ovKey Try.underlying96 (zero_str _) rfl (by repeat (first | exact h2 | refine MapIs.on ?_ _)) (x.mark, x.letter) rfl e5.out k5.out ?_) | (go_at_call 74; refine (isLetter_any x.made _ hl.out _ hs).mono ?_; rintro e w' ⟨rfl, rfl⟩) | (at_mapUpdate; refine wpList_put_is rfl _ _ _ _ 109 9 rfl ovKey Try.underlying96 rfl (by repeat (first | exact h2 | refine MapIs.on ?_ _)) (x.mark, x.letter) (.string x.made) rfl rfl hn2.out ?_; intro w1 hm1 hg1; have f0 : w1.cell? ⟨w.heap.size, 2, none⟩ = some (.map (some r3)) := hg1.cell (by repeat (first | exact cell_new (by simp) rfl | refine cell_on ?_ _)) (by have := h2.lt; simp; omega); have f1 : w1.cell? ⟨w.heap.size + 1, 2, none⟩ = some (.string x.made) := hg1.cell (by repeat (first | exact cell_new (by simp) rfl | refine cell_on ?_ _)) (by have := h2.lt; simp; omega); have f2 : w1.cell? ⟨w.heap.size + 1 + 1 + 1 + 1, 0, none⟩ = some (.string x.mark) := hg1.cell (by repeat (first | exact cell_new (by simp) rfl | refine cell_on ?_ _)) (by have := h2.lt; simp; omega); have f3 : w1.cell? ⟨w.heap.size + 1 + 1 + 1 + 1, 1, none⟩ = some (.string x.letter) := hg1.cell (by repeat (first | exact cell_new (by simp) rfl | refine cell_on ?_ _)) (by have := h2.lt; simp; omega); have h3w : MapIs Value.string w1 r3 (overL bs) := MapIs.grown (by repeat (first | exact h3 | refine MapIs.on ?_ _)) hg1 (fun e => n23 e.symm); have h1w : MapIs Value.string w1 r1 (spotL S) := MapIs.grown (by repeat (first | exact h1 | refine MapIs.on ?_ _)) hg1 n12; have hb1 : Kept2 r2 r3 w w1 := Kept2.trans (Kept2.of ((((((((Below.refl _ _).alloc (Nat.le_refl _) _).alloc (by simp) _).alloc (by simp; omega) _).alloc (by simp; omega) _).alloc (by simp; omega) _).alloc (by simp; omega) _).alloc (by simp; omega) _)) (Kept2.left hg1)) | (at_mapUpdate; refine wpList_put_is rfl _ _ _ _ 9 109 rfl strKey Try.underlying97 rfl h3w x.made (.agg #[.string x.mark, .string x.letter]) rfl rfl hn3.out ?_; intro w2 hm2 hg2))
      go_ret
      refine ⟨rfl, hb1.trans (Kept2.right hg2), h1w.grown hg2 n13, ?_, ?_⟩
      · have := hm1.grown hg2 n23
        simpa [madeL] using this
      · simpa [overL] using hm2
    · obtain rfl : v = false := by rw [← hv']; simpa using hlate
      clear hv'
      revert hlate
      cases li
      rotate_left
      cases b3
      cases b4
      cases b5
      · intro h
        exact absurd rfl h
      all_goals
        intro hlate
        clear hlate
        go_enter Try.func106, Try.ntmps106
        go_wp2_with (first | (at_lookup; refine wpList_look_is rfl _ _ _ 9 124 rfl strKey Try.underlying95 (zero_spot _) rfl (by repeat (first | exact h1 | refine MapIs.on ?_ _)) x.mark rfl e1.out k1.out ?_) | (at_lookup; refine wpList_look_is rfl _ _ _ 9 124 rfl strKey Try.underlying95 (zero_spot _) rfl (by repeat (first | exact h1 | refine MapIs.on ?_ _)) x.letter rfl e2.out k2.out ?_) | (at_lookup; refine wpList_look_is rfl _ _ _ 9 124 rfl strKey Try.underlying95 (zero_spot _) rfl (by repeat (first | exact h1 | refine MapIs.on ?_ _)) x.made rfl e3.out k3.out ?_) | (at_lookup; refine wpList_look_is rfl _ _ _ 9 109 rfl strKey Try.underlying97 (zero_over _) rfl (by repeat (first | exact h3 | refine MapIs.on ?_ _)) x.made rfl e4.out k4.out ?_) | (at_lookup; refine wpList_look_is rfl _ _ _ 109 9 rfl ovKey Try.underlying96 (zero_str _) rfl (by repeat (first | exact h2 | refine MapIs.on ?_ _)) (x.mark, x.letter) rfl e5.out k5.out ?_) | (go_at_call 74; refine (isLetter_any x.made _ hl.out _ hs).mono ?_; rintro e w' ⟨rfl, rfl⟩))
        go_ret
        exact ⟨rfl, Kept2.of ((((((((Below.refl _ _).alloc (Nat.le_refl _) _).alloc (by simp) _).alloc (by simp; omega) _).alloc (by simp; omega) _).alloc (by simp; omega) _).alloc (by simp; omega) _).alloc (by simp; omega) _), ((((((h1.on _).on _).on _).on _).on _).on _).on _, ((((((h2.on _).on _).on _).on _).on _).on _).on _, ((((((h3.on _).on _).on _).on _).on _).on _).on _⟩
  · obtain rfl : v = false := by
      rw [← hv]
      cases b1 <;> cases d1 <;> cases b2 <;> cases d2 <;> simp_all
    clear hv
    revert hearly
    cases b1
    rotate_left
    cases d1
    rotate_left
    cases b2
    rotate_left
    cases d2
    · intro h
      exact absurd rfl h
    all_goals
      intro hearly
      clear hearly
      go_enter Try.func106, Try.ntmps106
      go_wp2_with (first | (at_lookup; refine wpList_look_is rfl _ _ _ 9 124 rfl strKey Try.underlying95 (zero_spot _) rfl (by repeat (first | exact h1 | refine MapIs.on ?_ _)) x.mark rfl e1.out k1.out ?_) | (at_lookup; refine wpList_look_is rfl _ _ _ 9 124 rfl strKey Try.underlying95 (zero_spot _) rfl (by repeat (first | exact h1 | refine MapIs.on ?_ _)) x.letter rfl e2.out k2.out ?_))
      go_ret
      exact ⟨rfl, Kept2.of (((((Below.refl _ _).alloc (Nat.le_refl _) _).alloc (by simp) _).alloc (by simp; omega) _).alloc (by simp; omega) _), (((h1.on _).on _).on _).on _, (((h2.on _).on _).on _).on _, (((h3.on _).on _).on _).on _⟩

theorem val_made (x : AccentD) : ∀ bs : List AccentD, (valOf (x.mark, x.letter) (madeL bs)).isSome = bs.any fun b => decide (b.mark = x.mark) && decide (b.letter = x.letter)
  | [] => rfl
  | b :: bs => by
    have ih := val_made x bs
    unfold madeL at ih ⊢
    simp only [List.map_cons, valOf, List.any_cons]
    by_cases h : (x.mark, x.letter) = (b.mark, b.letter)
    · simp only [Prod.mk.injEq] at h
      simp [h.1, h.2]
    · rw [if_neg h, ih]
      have : (decide (b.mark = x.mark) && decide (b.letter = x.letter)) = false := by
        rw [Bool.and_eq_false_iff]
        by_cases h1 : b.mark = x.mark
        · right
          rw [decide_eq_false_iff_not]
          intro h2
          exact h (by rw [h1, h2])
        · left
          exact decide_eq_false h1
      rw [this, Bool.false_or]
theorem val_over (s : ByteArray) : ∀ bs : List AccentD, (valOf s (overL bs)).isSome = bs.any fun b => decide (b.made = s)
  | [] => rfl
  | b :: bs => by
    have ih := val_over s bs
    unfold overL at ih ⊢
    simp only [List.map_cons, valOf, List.any_cons]
    by_cases h : s = b.made
    · simp [h]
    · rw [if_neg h, ih, decide_eq_false (fun e => h e.symm), Bool.false_or]
theorem val_over_get (s : ByteArray) : ∀ bs : List AccentD, ∃ o1 o2, (valOf s (overL bs)).getD (.agg #[.string ByteArray.empty, .string ByteArray.empty]) = .agg #[.string o1, .string o2]
  | [] => ⟨_, _, rfl⟩
  | b :: bs => by
    obtain ⟨o1, o2, ih⟩ := val_over_get s bs
    unfold overL at ih ⊢
    simp only [List.map_cons, valOf]
    split
    · exact ⟨_, _, rfl⟩
    · exact ⟨o1, o2, ih⟩
theorem val_made_get (p : ByteArray × ByteArray) : ∀ bs : List AccentD, ∃ o, (valOf p (madeL bs)).getD (.string ByteArray.empty) = .string o
  | [] => ⟨_, rfl⟩
  | b :: bs => by
    obtain ⟨o, ih⟩ := val_made_get p bs
    unfold madeL at ih ⊢
    simp only [List.map_cons, valOf]
    split
    · exact ⟨_, rfl⟩
    · exact ⟨o, ih⟩
theorem val_spot_get (s : ByteArray) (S : List (ByteArray × SpotD)) : ∃ (i : Int) (a d : Bool), (valOf s (spotL S)).getD (.agg #[.int .i64 0, .bool false, .bool false]) = .agg #[.int .i64 i, .bool a, .bool d] ∧ ((match look s S with | some p => p.dead | none => false) = d) ∧ (valOf s (spotL S)).isSome = (look s S).isSome := by
  rw [val_spot]
  cases h : look s S with
  | none => exact ⟨0, false, false, rfl, rfl, rfl⟩
  | some p => exact ⟨(p.idx : Int), p.shift, p.dead, rfl, rfl, rfl⟩
theorem all_clash (x : AccentD) : ∀ bs : List AccentD, (bs.all fun b => !clash b x) = (!(bs.any fun b => decide (b.made = x.made)) && !(bs.any fun b => decide (b.mark = x.mark) && decide (b.letter = x.letter)))
  | [] => rfl
  | b :: bs => by
    rw [List.all_cons, List.any_cons, List.any_cons, all_clash x bs]
    unfold clash
    cases decide (b.made = x.made) <;> cases (decide (b.mark = x.mark) && decide (b.letter = x.letter)) <;> cases (bs.any fun b => decide (b.made = x.made)) <;> cases (bs.any fun b => decide (b.mark = x.mark) && decide (b.letter = x.letter)) <;> rfl
theorem okAcc_is (S : List (ByteArray × SpotD)) (x : AccentD) (d1 d2 : Bool) (h1 : (match look x.mark S with | some p => p.dead | none => false) = d1) (h2 : (match look x.letter S with | some p => p.dead | none => false) = d2) :
    okAcc S x = ((look x.mark S).isSome && d1 && (look x.letter S).isSome && !d2 && isLet x.made && !(look x.made S).isSome) := by
  subst h1 h2
  unfold okAcc
  cases look x.mark S <;> cases look x.letter S <;> cases look x.made S <;> simp

theorem addAccent_any (r1 r2 r3 : Nat) (x : AccentD) (S : List (ByteArray × SpotD)) (bs : List AccentD) (v : Bool) (w : World) (hs : x.made.size ≤ maxLen)
    (h1 : MapIs Value.string w r1 (spotL S)) (h2 : MapIs pairKey w r2 (madeL bs)) (h3 : MapIs Value.string w r3 (overL bs)) (n12 : r1 ≠ r2) (n13 : r1 ≠ r3) (n23 : r2 ≠ r3)
    (hv : (okAcc S x && bs.all fun b => !clash b x) = v) :
    Calls Try.prog 106 #[.agg #[.map (some r1), .map (some r2), .map (some r3)], .agg #[.string x.mark, .string x.letter, .string x.made]] w fun e w' => e = .returned (.bool v) ∧ Kept2 r2 r3 w w' ∧
      MapIs Value.string w' r1 (spotL S) ∧ MapIs pairKey w' r2 (madeL (if v = true then bs ++ [x] else bs)) ∧ MapIs Value.string w' r3 (overL (if v = true then bs ++ [x] else bs)) := by
  obtain ⟨i1, s1, d1, e1, m1, k1⟩ := val_spot_get x.mark S
  obtain ⟨i2, s2, d2, e2, m2, k2⟩ := val_spot_get x.letter S
  obtain ⟨i3, s3, d3, e3, m3, k3⟩ := val_spot_get x.made S
  obtain ⟨o1, o2, e4⟩ := val_over_get x.made bs
  obtain ⟨o3, e5⟩ := val_made_get (x.mark, x.letter) bs
  refine addAccent_core r1 r2 r3 x S bs _ s1 d1 _ s2 d2 _ s3 d3 _ _ _ v i1 i2 i3 o1 o2 o3 w hs h1 h2 h3 n12 n13 n23 e1 k1 e2 k2 e3 k3 e4 (val_over x.made bs) e5 (val_made x bs) rfl ?_
  rw [← hv, okAcc_is S x d1 d2 m1 m2, all_clash]
  simp only [Bool.and_assoc]
end Go.Proofs.Ytndodlfmjdgpcaa
