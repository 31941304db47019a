/- The plan of a row: the program's, which ranges over an iterator. -/
import Derived.Test.YtcmmcgjpaabnoaaRf0
import Derived.Test.YtcmmcgjpaabnoaaBf4
import Derived.Test.YtcmmcgjpaabnoaaTm5
import Derived.Test.YtcmmcgjpaabnoaaTs1
import Derived.Test.YtcmmcgjpaabnoaaBuild
namespace Go.Proofs.Ytcmmcgjpaabnoaa
open Go.RowKit Go.ChangeShapes Go.WideShapes Go.Deep Go.Shelf
set_option linter.unusedVariables false
set_option linter.unusedSimpArgs false
attribute [local go_sem] Oper.semAt_some

/-- What the letters of a row put into its plan. -/
noncomputable def plX (ps : List Int) (xs : List Ltr) : List UInt8 := xs.flatMap fun x => wayP ps x.col x.fr ++ [39, x.c]
theorem row_asc {s : ByteArray} (h : rowB s = true) : ∀ k, (hk : k < s.size) → 32 ≤ (s[k]'hk).toNat ∧ (s[k]'hk).toNat ≤ 126 := by
  simp only [rowB, Bool.and_eq_true] at h
  intro k hk
  exact Classical.byContradiction fun hn => by
    have := h.1.2
    rw [bytesIn_no hk hn] at this
    cases this
theorem plS_at2 (ps : List Int) (s : ByteArray) : ∀ k, (plS ps s k).2.1 = (ltF s k).2
  | 0 => rfl
  | k + 1 => by
    rw [plS, ltF]
    split
    · exact plS_at2 ps s k
    · rfl
theorem plX_raw (ps : List Int) : ∀ xs ys : List Ltr, xs.map Ltr.raw = ys.map Ltr.raw → plX ps xs = plX ps ys
  | [], [], _ => rfl
  | [], y :: ys, h => by simp at h
  | x :: xs, [], h => by simp at h
  | x :: xs, y :: ys, h => by
    simp only [List.map_cons, List.cons.injEq] at h
    have e := h.1
    simp only [Ltr.raw, Prod.mk.injEq] at e
    rw [plX, plX, List.flatMap_cons, List.flatMap_cons, e.1, e.2.1, e.2.2]
    exact congrArg _ (plX_raw ps xs ys h.2)
theorem plS_plX (ps : List Int) (s : ByteArray) : ∀ k (xs : List Ltr), xs.map Ltr.raw = (ltF s k).1 → (plS ps s k).1 = plX ps xs
  | 0, xs, h => by
    have : xs = [] := by simpa [ltF] using h
    subst this
    rfl
  | k + 1, xs, h => by
    rw [ltF] at h
    rw [plS]
    split at h
    · rename_i h32
      rw [if_pos h32]
      exact plS_plX ps s k xs h
    · rename_i h32
      rw [if_neg h32]
      rcases List.eq_nil_or_concat xs with rfl | ⟨ys, y, rfl⟩
      · simp at h
      · rw [List.concat_eq_append, List.map_append] at h
        obtain ⟨h1, h2⟩ := List.append_inj' h rfl
        have h3 := plS_plX ps s k ys h1
        simp only [List.map_cons, List.map_nil, List.cons.injEq, Ltr.raw, Prod.mk.injEq, and_true] at h2
        rw [h3, plS_at2, List.concat_eq_append, plX, plX, List.flatMap_append, List.flatMap_singleton, h2.1, h2.2.1, h2.2.2, List.append_assoc]
theorem built_kept {T e : TypeId} {B b : Nat} {bs : List Value} {w w' : World} (h : Lib.IsBuilderF T e B b bs w) (hk : ∀ (k : Nat) (o : Obj), w.heap[k]? = some o → o.isCells = true → w'.heap[k]? = some o) : Lib.IsBuilderF T e B b bs w' := by
  have h1 : ∀ p, Lib.BuilderAtF T e B b p bs w → Lib.BuilderAtF T e B b p bs w' := fun p hp => by
    obtain ⟨hB, v, hb, hown, hne⟩ := hp
    refine ⟨hB, v, hk _ _ hb rfl, ?_, hne⟩
    obtain ⟨hl, h0 | ⟨g, cap, cur, fz, rest⟩⟩ := hown
    · exact ⟨hl, .inl h0⟩
    · refine ⟨hl, .inr ⟨g, cap, cur, fz, ?_⟩⟩
      obtain ⟨r1, r2, r3, r4⟩ := rest
      exact ⟨r1, r2, hk _ _ r3 rfl, r4⟩
  exact h.elim (fun x => .inl (h1 _ x)) (fun x => .inr (h1 _ x))
theorem others_keeps {e : TypeId} {b : Nat} {w w' : World} (h : Lib.OthersKept e (some b) w w') (hb : ∃ o, w.heap[b]? = some o ∧ o.isCells = true) (hs : w.heap.size ≤ w'.heap.size) : KeepsOthers w w' :=
  ⟨hs, fun k o hk ho => by
    refine h k o hk (fun e2 => ?_) (fun c fz e2 => ?_)
    · cases e2
      obtain ⟨o', h1, h2⟩ := hb
      rw [h1] at hk
      cases hk
      rw [h2] at ho
      cases ho
    · subst e2
      cases ho⟩
theorem below_keeps {w w' : World} (h : Below w.heap.size w w') : KeepsOthers w w' :=
  ⟨h.size, fun k o hk _ => (h.block k (Array.getElem?_eq_some_iff.1 hk).1).trans hk⟩
theorem wayP_le30 (ps : List Int) {t a : Nat} (ht : t ≤ 30) (ha : a ≤ 30) : (wayP ps t a).length ≤ 30 := by
  obtain ⟨F, hF⟩ := isFar_ex ps ht
  have hf := hF.far ht
  have h30 := far_30 ht hf.zero hf.step ha
  have hl := way_len hf 31 a ha (by omega)
  rw [wayP]
  omega
theorem plX_len (ps : List Int) : ∀ xs : List Ltr, (plX ps xs).length ≤ 32 * xs.length
  | [] => by simp [plX]
  | x :: xs => by
    have h1 := plX_len ps xs
    have h2 := wayP_le30 ps (t := x.col) (a := x.fr) (by have := x.h2; omega) (by have := x.h1; have := x.h2; omega)
    rw [plX, List.flatMap_cons, List.length_append, List.length_append, List.length_cons]
    rw [plX] at h1
    simp only [List.length_cons, List.length_nil]
    omega
theorem plX_snoc (ps : List Int) (xs : List Ltr) (x : Ltr) : plX ps (xs ++ [x]) = plX ps xs ++ wayP ps x.col x.fr ++ [39] ++ [x.c] := by simp [plX]
theorem built_cells {T e : TypeId} {B b : Nat} {bs : List Value} {w : World} (h : Lib.IsBuilderF T e B b bs w) : ∃ o, w.heap[b]? = some o ∧ o.isCells = true := by
  rcases h with ⟨_, v, hb, _⟩ | ⟨_, v, hb, _⟩
  · exact ⟨_, hb, rfl⟩
  · exact ⟨_, hb, rfl⟩
theorem built_own {β : Type} (B0 B b : Nat) (f : β → List UInt8) : OwnFrom B0 (fun (pre : β) W => BuiltIs B b (f pre) W) := fun pre X Y row hs hg hr =>
  built_kept hs (fun k o hk ho => (hg.block k (Array.getElem?_eq_some_iff.1 hk).1 (fun e => by
    obtain ⟨_, o', h3, h4⟩ := hr k e.symm
    rw [h3] at hk
    cases hk
    rw [h4] at ho
    cases ho)).trans hk)
set_option maxRecDepth 100000 in
set_option maxHeartbeats 3200000 in
theorem rpW11 (A : Option Addr) (n c : Nat) (ps : List Int) (s : ByteArray) (w : World) (h : Ints w A n ps) (hn : n ≤ 1048576) (hs : s.size ≤ 1048576) (h1 : stB ps = true) (h2 : rowB s = true) :
    Calls Try.prog 20 #[.slice A n c, .string s] w fun e w' => e = .returned (.tuple #[.string ⟨(plS ps s s.size).1.toArray⟩, .int .i64 0]) ∧ Below w.heap.size w w' := by
  have hc1 := Lib.hid (vs11_implV A n c ps h1 w h hn)
  have hc2 : Hid (∀ W, Calls Try.prog 45 #[.string s] W fun e w' => e = .returned (.bool false) ∧ W = w') := Lib.hid (fun W => noRow11 s h2 W (by unfold maxLen; omega))
  have h6 : n ≤ 6 := by have := (stB_parts h1).1; rw [h.1] at this; exact this
  have hc3 := Lib.hid (movesWith11 A n c ps w h h6)
  refine (callsIn_wide (n := 9)).1 ?_
  refine callsIn_of_wp_marks Try.func20 rfl trivial ?_ rfl
  simp only [Try.ntmps20, List.size_toArray, List.length_cons, List.length_nil, Nat.reduceAdd, Nat.reduceSub, Array.replicate_succ, Array.replicate_zero, List.push_toArray, List.append_toArray, List.nil_append, List.cons_append]
  gi_wp2_with fail
  refine ⟨trivial, (callsIn_wide.2 hc1.out).mono ?_⟩
  rintro e w1 ⟨rfl, rfl⟩
  gi_wp2_with fail
  refine ⟨trivial, (callsIn_wide.2 (hc2.out _)).mono ?_⟩
  rintro e w1 ⟨rfl, rfl⟩
  gi_wp2_with fail
  refine ⟨trivial, (callsIn_wide.2 hc3.out).mono ?_⟩
  rintro e w1 ⟨M, rfl, hM, hb1⟩
  obtain ⟨g, B, A', n', c', rfl, hMv⟩ := hM
  gi_wp2_with fail
  refine ⟨trivial, (letters_in Fence.wide _ trivial rfl s _).mono ?_⟩
  rintro e w2 ⟨rfl, rfl⟩
  gi_wp2_with fail
  have hW0 : Below (w1.heap.size + 1) (w1.alloc (.cells #[.slice (some ⟨g, 0, none⟩) 3 3] 55)) (((w1.alloc (.cells #[.slice (some ⟨g, 0, none⟩) 3 3] 55)).alloc (.cells #[.pointer none, .slice none 0 0] 60)).alloc (.cells #[.string s] 9)) := ((Below.refl _ _).alloc (by simp) _).alloc (by simp) _
  have hbu : BuiltIs (w1.heap.size + 1) (w1.heap.size + 1) (plX ps []) (((w1.alloc (.cells #[.slice (some ⟨g, 0, none⟩) 3 3] 55)).alloc (.cells #[.pointer none, .slice none 0 0] 60)).alloc (.cells #[.string s] 9)) := by
    refine .inl ⟨Nat.le_refl _, .slice none 0 0, ?_, ⟨by simp [plX, Lib.byteCells], .inl ⟨rfl, by simp [plX, Lib.byteCells]⟩⟩, by simp [Value.ownBlock]⟩
    rw [(below_a1 _ _).block _ (by simp)]
    have := heap_alloc_new (w1.alloc (.cells #[.slice (some ⟨g, 0, none⟩) 3 3] 55)) (.cells #[.pointer none, .slice none 0 0] 60)
    rw [World.size_alloc] at this
    exact this
  have hbx : (((w1.alloc (.cells #[.slice (some ⟨g, 0, none⟩) 3 3] 55)).alloc (.cells #[.pointer none, .slice none 0 0] 60)).alloc (.cells #[.string s] 9)).cell? ⟨w1.heap.size + 1 + 1, 0, none⟩ = some (.string s) := cell_new (by simp) rfl
  have hsz : (((w1.alloc (.cells #[.slice (some ⟨g, 0, none⟩) 3 3] 55)).alloc (.cells #[.pointer none, .slice none 0 0] 60)).alloc (.cells #[.string s] 9)).heap.size = w1.heap.size + 3 := by simp
  obtain ⟨W0, hW00⟩ : ∃ W0, ((w1.alloc (.cells #[.slice (some ⟨g, 0, none⟩) 3 3] 55)).alloc (.cells #[.pointer none, .slice none 0 0] 60)).alloc (.cells #[.string s] 9) = W0 := ⟨_, rfl⟩
  rw [hW00] at hW0 hbu hbx hsz ⊢
  clear hW00
  refine wpIn_rangeFunc_ownH rfl (by omega) (gf := 73) (lb := #[.pointer (some ⟨w1.heap.size + 1 + 1, 0, none⟩)]) rfl trivial (enters_of Try.func73 (by kernel_rfl) rfl)
    (letters_stops Fence.wide (9 - 1) trivial rfl (by omega) (w1.heap.size + 1 + 1) s (rowB_size h2) (row_asc h2) W0 (by omega) hbx) walksK_t walksK_b (Below.refl _ _) (fun _ => rfl)
    (fun pre W => BuiltIs (w1.heap.size + 1) (w1.heap.size + 1) (plX ps pre) W ∧ Below (w1.heap.size + 1) (w1.alloc (.cells #[.slice (some ⟨g, 0, none⟩) 3 3] 55)) W)
    (fun _ _ _ => False)
    (OwnFrom.and (built_own _ _ _ (plX ps)) (ownFrom_below (by simp) (by omega)))
    (fun _ _ _ _ _ hs _ _ => hs)
    ⟨hbu, hW0⟩
    (fun x a' W => ∃ Bx, W.heap[Bx]? = some (.cells #[.int .i64 (x.fr : Int), .int .i64 (x.col : Int)] 52) ∧ a' = { tmps := #[.slice A n c, .string s, undef, undef, .string ⟨#[]⟩, .int .i64 0, .pointer (some ⟨w1.heap.size, 0, none⟩), .pointer (some ⟨w1.heap.size + 1, 0, none⟩), .pointer (some ⟨Bx, 0, none⟩), .int .i32 (x.c.toNat : Int), .slice A n c, .bool true, .bool false, .string s, .bool false, .slice A n c, .slice (some ⟨g, 0, none⟩) 3 3, .string s, .func (.func 73) #[] #[.pointer (some ⟨w1.heap.size + 1 + 1, 0, none⟩)], .agg #[.int .i64 (x.fr : Int), .int .i64 (x.col : Int)], .int .i32 (x.c.toNat : Int), undef, undef, undef, undef, undef, undef, undef, undef], defers := [] })
    (fun x a' _ X Y row hs hg hr => by
      obtain ⟨Bx, h3, h4⟩ := hs
      refine ⟨Bx, (hg.block Bx (Array.getElem?_eq_some_iff.1 h3).1 (fun e => ?_)).trans h3, h4⟩
      obtain ⟨o', h5, h6⟩ := (hr Bx e.symm).2
      rw [h3] at h5
      cases h5
      cases h6)
    ?assign ?body ?done ?stop
  case assign =>
    rintro l pre x W K ⟨hbu1, hbl1⟩ hK
    dsimp only [encL]
    gi_wp2
    have hbl2 := hbl1.size
    refine hK _ _ ((KeepsOthers.alloc _ _).from _) (KeepsOthers.alloc _ _).walks ⟨built_kept hbu1 (fun k o hk _ => (Below.heap_alloc W _ k (Array.getElem?_eq_some_iff.1 hk).1).trans hk), hbl1.alloc (by simp at hbl2; omega) _⟩ ⟨W.heap.size, heap_alloc_new _ _, rfl⟩
  case body =>
    rintro l pre x a' W hl ⟨r, hr⟩ ⟨hbu1, hbl1⟩ ⟨Bx, hBx, rfl⟩ hlt
    have hlen := plX_len ps pre
    have hway := wayP_le30 ps (t := x.col) (a := x.fr) (by have := x.h2; omega) (by have := x.h1; have := x.h2; omega)
    have hsz2 := hbl1.size
    rw [World.size_alloc] at hsz2
    have d0 := own_cell hBx (o := 0) (u := .int .i64 (x.fr : Int)) rfl
    have d1 := own_cell hBx (o := 1) (u := .int .i64 (x.col : Int)) rfl
    have dM : W.cell? ⟨w1.heap.size, 0, none⟩ = some (.slice (some ⟨g, 0, none⟩) 3 3) := (hbl1.cell (p := ⟨w1.heap.size, 0, none⟩) (by simp)).trans (cell_new rfl rfl)
    have hMW : MovsAt W ps g B A' n' c' := hMv.below ((below_a1 w1 _).trans (hbl1.mono (by omega)))
    have hpl := Lib.hid (planW11 ps g B A' n' c' x.fr x.col (by have := x.h1; have := x.h2; omega) (by have := x.h2; omega) h1 W hMW rfl)
    have hbW : w1.heap.size + 1 ≤ W.heap.size := by omega
    generalize hP : (⟨(wayP ps x.col x.fr).toArray⟩ : ByteArray) = P at hpl
    have hPs : P.size ≤ 30 := by rw [← hP]; exact hway
    have hPl : P.data.toList = wayP ps x.col x.fr := by rw [← hP]
    replace hP := Lib.hid hP
    replace hPl := Lib.hid hPl
    gi_wp2_with fail
    refine ⟨trivial, (CallsIn.inRound l (callsIn_wide.2 hpl.out)).mono ?_⟩
    rintro e w3 ⟨rfl, hb3⟩
    have hk3 := below_keeps hb3
    have hbu3 := built_kept hbu1 (fun k o hk _ => (hb3.block k (Array.getElem?_eq_some_iff.1 hk).1).trans hk)
    have hbl3 := hbl1.trans (hb3.mono hbW)
    have hs3 : w1.heap.size + 1 ≤ w3.heap.size := Nat.le_trans hbW hb3.size
    gi_wp2_with fail
    refine ⟨trivial, (CallsIn.inRound l (callsIn_wide.2 (write_string (w1.heap.size + 1) (w1.heap.size + 1) (plX ps pre) P w3 hbu3 (by omega) hs3))).mono ?_⟩
    rintro e w4 ⟨rfl, hbu4, hb4, ho4⟩
    have hk4 := hk3.trans (others_keeps ho4 (built_cells hbu3) hb4.size)
    have hbl4 := hbl3.trans hb4
    have hs4 : w1.heap.size + 1 ≤ w4.heap.size := Nat.le_trans hs3 hb4.size
    gi_wp2_with fail
    refine ⟨trivial, (CallsIn.inRound l (callsIn_wide.2 (write_rune (w1.heap.size + 1) (w1.heap.size + 1) 39 (plX ps pre ++ P.data.toList) w4 hbu4 (by omega) (by rw [List.length_append, hPl.out]; omega) hs4))).mono ?_⟩
    rintro e w5 ⟨rfl, hbu5, hb5, ho5⟩
    have hk5 := hk4.trans (others_keeps ho5 (built_cells hbu4) hb5.size)
    have hbl5 := hbl4.trans hb5
    have hs5 : w1.heap.size + 1 ≤ w5.heap.size := Nat.le_trans hs4 hb5.size
    gi_wp2_with fail
    refine ⟨trivial, (CallsIn.inRound l (callsIn_wide.2 (write_rune (w1.heap.size + 1) (w1.heap.size + 1) x.c.toNat (plX ps pre ++ P.data.toList ++ [UInt8.ofNat 39]) w5 hbu5 (by have := x.h4; omega) (by rw [List.length_append, List.length_append, hPl.out]; simp only [List.length_cons, List.length_nil]; omega) hs5))).mono ?_⟩
    rintro e w6 ⟨rfl, hbu6, hb6, ho6⟩
    have hk6 := hk5.trans (others_keeps ho6 (built_cells hbu5) hb6.size)
    have hbl6 := hbl5.trans hb6
    have hfin : Hid (BuiltIs (w1.heap.size + 1) (w1.heap.size + 1) (plX ps (pre ++ [x])) w6) := Lib.hid (by
      rw [plX_snoc, ← hPl.out]
      rw [show UInt8.ofNat x.c.toNat = x.c from UInt8.ofNat_toNat] at hbu6
      exact hbu6)
    gi_wp2
    exact ⟨hk6.from _, hk6.walks, hfin.out, hbl6⟩
  case done =>
    rintro D ys W hD hys ⟨hbu1, hbl1⟩ hK
    have hsz2 := hbl1.size
    rw [World.size_alloc] at hsz2
    gi_wp2_with fail
    refine ⟨trivial, (callsIn_wide.2 (Try.Builder_String_any_k (w1.heap.size + 1) (w1.heap.size + 1) (plX ps ys) W hbu1 hsz2)).mono ?_⟩
    rintro e w3 ⟨rfl, hbu3, hb3, ho3⟩
    have hK3 := (others_keeps ho3 (built_cells hbu1) hb3.size).same D _ hK rfl
    gi_wp2
    refine ⟨by simp, .inl ⟨_, _, rfl, run_takeDeferred hK3, ?_⟩⟩
    have hB4 := (hbl1.trans hb3).trans (belowK_b (n₀ := w1.heap.size + 1) (w := W0) (by omega) w3 D _ (.deferred none) hD hK3 rfl rfl)
    refine ⟨.tuple #[.string ⟨(plX ps ys).toArray⟩, .int .i64 0], by simp [results, Try.f20, go_sem], ?_, hb1.trans (((below_a1 w1 _).trans (hB4.mono (by omega))).mono hb1.size)⟩
    rw [plS_plX ps s s.size ys hys]
  case stop =>
    rintro D c pre W _ _ h _
    exact h.elim
theorem rpW11' (A : Option Addr) (n c : Nat) (ps : List Int) (s : ByteArray) (w : World) (h : Ints w A n ps) (hn : n ≤ 1048576) (hs : s.size ≤ 1048576) {r : ByteArray × Int} (hr : rpR ps s = r) :
    Calls Try.prog 20 #[.slice A n c, .string s] w fun e w' => e = .returned (.tuple #[.string r.1, .int .i64 r.2]) ∧ Below w.heap.size w w' := by
  cases h1 : stB ps with
  | false =>
    have hc := Lib.hid (vs11_implV A n c ps h1 w h hn)
    have hrr : Hid (r = (ByteArray.empty, 1)) := Lib.hid (by rw [← hr, rpR, if_neg (by rw [h1]; simp)])
    clear h1 hr h
    go_enter Try.func20, Try.ntmps20
    go_wp2_with fail
    refine hc.out.mono ?_
    rintro e w1 ⟨rfl, rfl⟩
    go_wp2
    go_ret2
    exact ⟨by rw [hrr.out]; rfl, Below.refl _ _⟩
  | true =>
    cases h2 : rowB s with
    | false =>
      have hc := Lib.hid (vs11_implV A n c ps h1 w h hn)
      have hrr : Hid (r = (ByteArray.empty, 2)) := Lib.hid (by rw [← hr, rpR, if_pos h1, if_neg (by rw [h2]; simp)])
      have hc2 : Hid (∀ W, Calls Try.prog 45 #[.string s] W fun e w' => e = .returned (.bool true) ∧ W = w') := Lib.hid (fun W => noRow11 s h2 W (by unfold maxLen; omega))
      clear h1 h2 hr h
      go_enter Try.func20, Try.ntmps20
      go_wp2_with fail
      refine hc.out.mono ?_
      rintro e w1 ⟨rfl, rfl⟩
      go_wp2_with fail
      refine (hc2.out _).mono ?_
      rintro e w1 ⟨rfl, rfl⟩
      go_wp2
      go_ret2
      exact ⟨by rw [hrr.out]; rfl, Below.refl _ _⟩
    | true =>
      have e : r = (⟨(plS ps s s.size).1.toArray⟩, 0) := by rw [← hr, rpR, if_pos h1, if_pos h2]
      subst e
      exact rpW11 A n c ps s w h hn hs h1 h2
theorem rp11_impl (A : Option Addr) (n c : Nat) (ps : List Int) (s : ByteArray) (w : World) (h : Ints w A n ps) (hn : n ≤ 1048576) (hx : ∀ x ∈ ps, intGood x) (hs : s.size ≤ 1048576) :
    Calls Try.prog 20 #[.slice A n c, .string s] w fun e w' => e = .returned (.tuple #[.string (rpR ps s).1, .int .i64 (rpR ps s).2]) ∧ Below w.heap.size w w' := rpW11' A n c ps s w h hn hs rfl
theorem rp11_spec (A : Option Addr) (n c : Nat) (ps : List Int) (s : ByteArray) (w : World) (h : Ints w A n ps) (hn : n ≤ 1048576) (hx : ∀ x ∈ ps, intGood x) (hs : s.size ≤ 1048576) :
    Calls Try.prog 19 #[.slice A n c, .string s] w fun e w' => e = .returned (.tuple #[.string (rpR ps s).1, .int .i64 (rpR ps s).2]) ∧ Below w.heap.size w w' := rp11_specC A n c ps s w h hn hs
end Go.Proofs.Ytcmmcgjpaabnoaa
