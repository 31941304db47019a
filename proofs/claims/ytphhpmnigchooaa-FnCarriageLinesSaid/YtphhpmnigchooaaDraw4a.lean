/- Acts that are drawn. -/
import Derived.Test.YtphhpmnigchooaaDraw4
import Derived.Test.YtphhpmnigchooaaActS
namespace Go.Proofs.Ytphhpmnigchooaa
open Go.RowKit
set_option linter.unusedVariables false
set_option linter.unusedSimpArgs false

theorem Try.infoAct4 : (Try.prog.info? 57).map (fun i => (i.zero, i.size, i.bytes)) = some (some (.agg #[.int .i64 0, .string ⟨#[]⟩]), 2, 24) := by kernel_rfl
def actD (x : ActD) : Prop := (-1 ≤ x.kind ∧ x.kind ≤ 6) ∧ x.letter.size ≤ 2
theorem actD.good {x : ActD} (h : actD x) : x.good := ⟨wf64 (by have := h.1; omega), by have := h.2; unfold maxLen; omega⟩
theorem acts_len (l : List ActD) : (l.flatMap ActD.cells).length = l.length * 2 := by
  induction l with
  | nil => rfl
  | cons a l ih => simp [ActD.cells, ih]; omega
theorem acts_cell0 : ∀ {l : List ActD} {i : Nat} {x : ActD}, l[i]? = some x → (l.flatMap ActD.cells)[i * 2]? = some (.int .i64 x.kind) ∧ (l.flatMap ActD.cells)[i * 2 + 1]? = some (.string x.letter)
  | [], i, x, h => by cases h
  | a :: l, 0, x, h => by cases h; exact ⟨rfl, rfl⟩
  | a :: l, i + 1, x, h => by
    have h' : l[i]? = some x := h
    have ih := acts_cell0 h'
    rw [List.flatMap_cons, show (i + 1) * 2 = i * 2 + 1 + 1 by omega]
    exact ih
theorem acts_set0 : ∀ {l : List ActD} {i : Nat} {x : ActD} (k : Int), l[i]? = some x → (l.flatMap ActD.cells).set (i * 2) (.int .i64 k) = (l.set i ⟨k, x.letter⟩).flatMap ActD.cells
  | [], i, x, k, h => by cases h
  | a :: l, 0, x, k, h => by cases h; rfl
  | a :: l, i + 1, x, k, h => by
    have h' : l[i]? = some x := h
    have ih := acts_set0 k h'
    rw [List.set_cons_succ, List.flatMap_cons, List.flatMap_cons, ← ih, show (i + 1) * 2 = i * 2 + 1 + 1 by omega]
    rfl
theorem acts_set1 : ∀ {l : List ActD} {i : Nat} {x : ActD} (s : ByteArray), l[i]? = some x → (l.flatMap ActD.cells).set (i * 2 + 1) (.string s) = (l.set i ⟨x.kind, s⟩).flatMap ActD.cells
  | [], i, x, s, h => by cases h
  | a :: l, 0, x, s, h => by cases h; rfl
  | a :: l, i + 1, x, s, h => by
    have h' : l[i]? = some x := h
    have ih := acts_set1 s h'
    rw [List.set_cons_succ, List.flatMap_cons, List.flatMap_cons, ← ih, show (i + 1) * 2 + 1 = i * 2 + 1 + 1 + 1 by omega]
    rfl
theorem set_actD {l : List ActD} (h : ∀ x ∈ l, actD x) (i : Nat) {y : ActD} (hy : actD y) : ∀ x ∈ l.set i y, actD x := fun x hx => by
  rcases List.mem_or_eq_of_mem_set hx with hx | rfl
  · exact h x hx
  · exact hy
theorem add_actD {l : List ActD} (h : ∀ x ∈ l, actD x) {y : ActD} (hy : actD y) : ∀ x ∈ l ++ [y], actD x := fun x hx => by
  rcases List.mem_append.1 hx with hx | hx
  · exact h x hx
  · rw [List.mem_singleton] at hx; exact hx ▸ hy
theorem acts_snoc4 (l : List ActD) (x : ActD) : (l ++ [x]).flatMap ActD.cells = l.flatMap ActD.cells ++ [.int .i64 x.kind, .string x.letter] := by simp [ActD.cells]
theorem acts_empty4 (w : World) (N : Nat) (hN : w.heap.size = N) : (w.alloc (.cells #[] 57)).ownsRow N 57 2 (.slice (some ⟨N, 0, none⟩) 0 0) 0 [] := by
  have := World.ownsRow_lit (w := w) (e := 57) (base := N) (size := 2) #[] 0 (by omega) (by simp [maxLen]) (by simp)
  simpa [hN] using this

set_option maxRecDepth 100000 in
set_option maxHeartbeats 4000000 in
theorem l04acts_any (r t : Nat) (w : World) (h : SrcAt w r t) (ht : t ≤ 1000000) :
    Calls Try.prog 28 #[.pointer (some ⟨r, 0, none⟩)] w fun e w' => ∃ A n c, ∃ xs : List ActD, e = .returned (.slice A n c) ∧ n ≤ 201 ∧ n ≤ c ∧ w'.ownsRow w.heap.size 57 2 (.slice A n c) n (xs.flatMap ActD.cells) ∧ xs.length = n ∧ (∀ x ∈ xs, actD x) ∧ SrcAt w' r (t + 1300) ∧ Drawn r w.heap.size w w' := by
  obtain ⟨i0, hi, hz0, hz1, hz2⟩ := info_parts Try.infoAct4
  have hrl := h.lt
  have hem := acts_empty4 w w.heap.size rfl
  have hb0 := below_a1 w (.cells #[] 57)
  have hs0 := h.below hb0
  have hd0 : Drawn r w.heap.size w (w.alloc (.cells #[] 57)) := (Drawn.refl r w.heap.size w).below hb0 (Nat.le_refl _)
  go_enter Try.func28, Try.ntmps28
  go_wp2_with fail
  have hzz : w.heap.size ≤ (w.alloc (.cells #[] 57)).heap.size := hb0.size
  generalize w.alloc (.cells #[] 57) = w1 at *
  generalize hN : w.heap.size = N at *
  refine (pick_any r t 26 w1 hs0 (by omega) (by omega)).mono ?_
  rintro e w2 ⟨x1, rfl, l1, u1, _, hs2, hg2⟩
  replace u1 := u1 (by omega)
  have hrow2 := owns_past hem hg2 (by omega)
  have hd2 := hd0.pick hg2 hzz
  have hz2' := Nat.le_trans hzz hg2.size
  have ho2 := Lib.hid (one_any r (t + 2) 30 w2 hs2 (by omega) (by omega))
  clear hem hs0 hd0 hb0 hg2
  go_wp2_with fail
  refine ho2.out.mono ?_
  rintro e w3 ⟨b, rfl, hs3, hg3⟩
  have hrow3 := owns_past hrow2 hg3 (by omega)
  have hd3 := hd2.pick hg3 hz2'
  have hz3 := Nat.le_trans hz2' hg3.size
  clear hrow2 hd2 hs2 ho2 hg3
  cases b with
  | true =>
    have hp3 := Lib.hid (pick_any r (t + 2 + 2) 2 w3 hs3 (by omega) (by omega))
    go_wp2_with fail
    refine hp3.out.mono ?_
    rintro e w4 ⟨x2, rfl, l2, u2, _, hs4, hg4⟩
    replace u2 := u2 (by omega)
    have hrow4 := owns_past hrow3 hg4 (by omega)
    have hd4 := hd3.pick hg4 hz3
    have hz4 := Nat.le_trans hz3 hg4.size
    obtain ⟨m, hm⟩ : ∃ m : Nat, 200 + x2 = (m : Int) := ⟨(200 + x2).toNat, by omega⟩
    have mw : IntKind.i64.wrap (200 + x2) = (m : Int) := by rw [← hm]; exact IntWalk.i64_in _ (by omega)
    have hm1 : m ≤ 201 := by omega
    clear hrow3 hd3 hs3 hp3 hg4
    go_wp2
    go_loopw [3, 5] (fun v kv wr => ∃ (L : List ActD) (k : Nat), kv = .int .i64 (k : Int) ∧ L.length + k = m ∧ (∀ x ∈ L, actD x) ∧ wr.ownsRow N 57 2 v L.length (L.flatMap ActD.cells) ∧ SrcAt wr r (t + 6 + 6 * L.length) ∧ Drawn r N w wr ∧ N ≤ wr.heap.size) (fun _ kv _ => (intOf kv).toNat)
    case atStart => exact ⟨[], m, rfl, by simp, (fun _ hx => by cases hx), hrow4, hs4.mono (by show _ ≤ t + 6 + 6 * 0; omega), hd4, hz4⟩
    case round =>
      rename World => wr
      obtain ⟨L, k, rfl, hLk, hLg, hrow, hs, hd, hz⟩ := hrel
      replace hLg := Lib.hid hLg
      by_cases hk : 0 < k
      · have gk : decide ((0 : Int) < (k : Int)) = true := decide_eq_true (by omega)
        have hb5 := below_a1 wr (.cells (List.map (fun x => Value.int .i64 x) [0, 0, 0, 1, 2, 3, 5]).toArray 2)
        have hI5 := ints_lit wr [0, 0, 0, 1, 2, 3, 5] 2 7 rfl
        have hs5 := hs.below hb5
        have hrow5 := owns_still hrow hb5
        have hd5 := hd.below hb5 hz
        have hz5 := Nat.le_trans hz hb5.size
        clear hrow hs hd
        go_wp2_with fail
        refine (among_any r (t + 6 + 6 * L.length) (some ⟨wr.heap.size, 0, none⟩) 7 7 [0, 0, 0, 1, 2, 3, 5] _ hs5 (by omega) hI5 (by omega) (by omega) (fun p hp => by cases hp; simp only; omega)).mono ?_
        rintro e w6 ⟨y, hy, rfl, hs6, hg6⟩
        have hyb : 0 ≤ y ∧ y ≤ 5 := by simp only [List.mem_cons, List.not_mem_nil, or_false] at hy; omega
        have hrow6 := owns_past hrow5 hg6 (by omega)
        have hd6 := hd5.pick hg6 hz5
        have hz6 := Nat.le_trans hz5 hg6.size
        have ho6 := Lib.hid (one_any r (t + 6 + 6 * L.length + 2) 20 w6 hs6 (by omega) (by omega))
        clear hy hI5 hb5 hs5 hrow5 hd5 hz5 hg6
        go_wp2_with fail
        refine ho6.out.mono ?_
        rintro e w7 ⟨b7, rfl, hs7, hg7⟩
        have hrow7 := owns_past hrow6 hg7 (by omega)
        have hd7 := hd6.pick hg7 hz6
        have hz7 := Nat.le_trans hz6 hg7.size
        clear hrow6 hd6 hz6 hs6 ho6 hg7
        cases b7 with
        | true =>
          have h63 : L.length + 1 ≤ maxLen := by unfold maxLen; omega
          have hby : (L.length + 1) * 24 ≤ 140737488355328 := by omega
          go_wp2_with (at_builtin; refine wpList_append_own _ rfl _ _ 54 rfl N 57 i0 _ 2 24 Try.underlying54 hi hz0 hz1 hz2 rfl (by decide) _ _ _ rfl ((hrow7.alloc _).alloc _) ⟨w7.heap.size + 1, 0, none⟩ 1 1 [.int .i64 4, .string ⟨#[]⟩] rfl rfl ?a1 ?b1 h63 hby ?e1 ?_)
          case a1 =>
            intro i u hi
            match i, hi with
            | 0, hi => cases hi; exact cell_new (by simp [Addr.add]) rfl
            | 1, hi => cases hi; exact cell_new (by simp [Addr.add]) rfl
            | i + 2, hi => simp at hi
          case b1 =>
            intro u hu
            simp only [List.mem_cons, List.not_mem_nil, or_false] at hu
            rcases hu with rfl | rfl <;> rfl
          case e1 => simp; omega
          intro v' w9 hown9 hgr9 hnil
          have hgA := grown_trans (grown_below (below_a2 w7 _ _) _) hgr9
          have hs9 := SrcAt.grownO hs7 hgA (fun q hq => by have := act_base hrow7 q hq; omega)
          have hd9 := Drawn.youngO hd7 hgA hz7 (fun q hq => act_base hrow7 q hq)
          have hz9 := Nat.le_trans hz7 hgA.size
          have hln : (L ++ [(⟨4, ⟨#[]⟩⟩ : ActD)]).length = L.length + 1 := by simp
          have hrow9 : w9.ownsRow N 57 2 v' (L ++ [(⟨4, ⟨#[]⟩⟩ : ActD)]).length ((L ++ [(⟨4, ⟨#[]⟩⟩ : ActD)]).flatMap ActD.cells) := by
            rw [hln, acts_snoc4]
            exact hown9
          have hrel9 : Hid ((∀ x ∈ L ++ [(⟨4, ⟨#[]⟩⟩ : ActD)], actD x) ∧ w9.ownsRow N 57 2 v' (L ++ [(⟨4, ⟨#[]⟩⟩ : ActD)]).length ((L ++ [(⟨4, ⟨#[]⟩⟩ : ActD)]).flatMap ActD.cells) ∧ SrcAt w9 r (t + 6 + 6 * (L ++ [(⟨4, ⟨#[]⟩⟩ : ActD)]).length) ∧ Drawn r N w w9 ∧ N ≤ w9.heap.size) := Lib.hid ⟨add_actD hLg.out ⟨by simp only; omega, Nat.zero_le _⟩, hrow9, hs9.mono (by rw [hln]; omega), hd9, hz9⟩
          clear hown9 hgr9 hnil hgA hs9 hd9 hz9 hrow9
          go_wp2
          go_roundw
          case rel => exact ⟨L ++ [⟨4, ⟨#[]⟩⟩], k - 1, by rw [Int.natCast_sub (by omega)]; rfl, by rw [hln]; omega, hrel9.out.1, hrel9.out.2.1, hrel9.out.2.2.1, hrel9.out.2.2.2.1, hrel9.out.2.2.2.2⟩
          case measure => simp [intOf]; omega
        | false =>
          by_cases hy0 : y = 0
          · have g0 : (y == 0) = true := beq_iff_eq.2 hy0
            have hbA := below_a1 w7 (.cells #[.int .i64 y, .string ⟨#[]⟩] 57)
            have hcA : (w7.alloc (.cells #[.int .i64 y, .string ⟨#[]⟩] 57)).cell? ⟨w7.heap.size, 0, none⟩ = some (.int .i64 y) := cell_new rfl rfl
            have hcB : (w7.alloc (.cells #[.int .i64 y, .string ⟨#[]⟩] 57)).cell? ⟨w7.heap.size, 1, none⟩ = some (.string ⟨#[]⟩) := cell_new rfl rfl
            have hsA := hs7.below hbA
            have hrowA := owns_still hrow7 hbA
            have hdA := hd7.below hbA hz7
            have hzA := Nat.le_trans hz7 hbA.size
            have hzB : (w7.alloc (.cells #[.int .i64 y, .string ⟨#[]⟩] 57)).heap.size = w7.heap.size + 1 := by simp
            have hrA : World.rowIs (w7.alloc (.cells #[.int .i64 y, .string ⟨#[]⟩] 57)) w7.heap.size 57 2 (fun j => (#[Value.int .i64 y, .string ⟨#[]⟩][j]?).getD undef) := by
              refine ⟨_, heap_alloc_new _ _, rfl, fun i hi => ?_⟩
              match i, hi with
              | 0, _ => rfl
              | 1, _ => rfl
            clear hy0
            go_wp2_with fail
            generalize w7.alloc (.cells #[.int .i64 y, .string ⟨#[]⟩] 57) = wA at *
            have hSl := strs_lit wA [⟨#[97]⟩, ⟨#[98]⟩, ⟨#[45]⟩, ⟨#[47]⟩] 9 4 rfl
            rw [hzB] at hSl
            have hbS := below_a1 wA (.cells (List.map Value.string [⟨#[97]⟩, ⟨#[98]⟩, ⟨#[45]⟩, ⟨#[47]⟩]).toArray 9)
            refine (text_any r (t + 6 + 6 * L.length + 2 + 2) (some ⟨w7.heap.size + 1, 0, none⟩) 4 4 [⟨#[97]⟩, ⟨#[98]⟩, ⟨#[45]⟩, ⟨#[47]⟩] _ (hsA.below hbS) (by omega) hSl (by omega) (by omega) (fun p hp => by cases hp; simp only; omega)).mono ?_
            rintro e w8 ⟨z, hz8, rfl, hs8, hg8⟩
            have hzs : z.size ≤ 2 := by
              simp only [List.mem_cons, List.not_mem_nil, or_false] at hz8
              rcases hz8 with rfl | rfl | rfl | rfl <;> decide
            have hrS := hrA.of_block (hbS.block _ hrA.lt)
            have hr8 := hrS.of_block (hg8.block _ hrS.lt (fun e => by cases e; omega))
            have hrow8 := owns_past (owns_still hrowA hbS) hg8 (by omega)
            have hd8 := (hdA.below hbS hzA).pick hg8 (Nat.le_trans hzA hbS.size)
            have hz8' := Nat.le_trans (Nat.le_trans hzA hbS.size) hg8.size
            have q0 := hr8.cell (i := 0) (by omega)
            have q1 := hr8.cell (i := 1) (by omega)
            have q2 := hr8.frozen 1
            have ql := hr8.lt
            clear hz8 hSl hbS hrA hrS hsA hrowA hdA hcA hcB hbA
            have hgS : w8.grownBy (w8.setCell ⟨w7.heap.size, 1, none⟩ (.string z)) (some w7.heap.size) := grown_set
            have hrowS := owns_young hrow8 hrow7 hgS (Nat.le_refl _)
            have hs8Z := hs8.grown hgS (by omega)
            have hd8Z := hd8.young hgS hz8' hz7
            have hz8Z := Nat.le_trans hz8' hgS.size
            have h63 : L.length + 1 ≤ maxLen := by unfold maxLen; omega
            have hby : (L.length + 1) * 24 ≤ 140737488355328 := by omega
            go_wp2_with (at_builtin; refine wpList_append_own _ rfl _ _ 54 rfl N 57 i0 _ 2 24 Try.underlying54 hi hz0 hz1 hz2 rfl (by decide) _ _ _ rfl (hrowS.alloc _) ⟨w8.heap.size, 0, none⟩ 1 1 [.int .i64 y, .string z] rfl rfl ?a1 ?b1 h63 hby ?e1 ?_)
            case a1 =>
              intro i u hi
              match i, hi with
              | 0, hi => cases hi; exact cell_new (by simp [Addr.add]) rfl
              | 1, hi => cases hi; exact cell_new (by simp [Addr.add]) rfl
              | i + 2, hi => simp at hi
            case b1 =>
              intro u hu
              simp only [List.mem_cons, List.not_mem_nil, or_false] at hu
              rcases hu with rfl | rfl <;> rfl
            case e1 => simp; omega
            intro v' w9 hown9 hgr9 hnil
            have hgA := grown_trans (grown_below (below_a1 _ _) _) hgr9
            have hs9 := SrcAt.grownO hs8Z hgA (fun q hq => by have := act_base hrow7 q hq; omega)
            have hd9 := Drawn.youngO hd8Z hgA hz8Z (fun q hq => act_base hrow7 q hq)
            have hz9 := Nat.le_trans hz8Z hgA.size
            have hln : (L ++ [(⟨y, z⟩ : ActD)]).length = L.length + 1 := by simp
            have hrow9 : w9.ownsRow N 57 2 v' (L ++ [(⟨y, z⟩ : ActD)]).length ((L ++ [(⟨y, z⟩ : ActD)]).flatMap ActD.cells) := by
              rw [hln, acts_snoc4]
              exact hown9
            have hrel9 : Hid ((∀ x ∈ L ++ [(⟨y, z⟩ : ActD)], actD x) ∧ w9.ownsRow N 57 2 v' (L ++ [(⟨y, z⟩ : ActD)]).length ((L ++ [(⟨y, z⟩ : ActD)]).flatMap ActD.cells) ∧ SrcAt w9 r (t + 6 + 6 * (L ++ [(⟨y, z⟩ : ActD)]).length) ∧ Drawn r N w w9 ∧ N ≤ w9.heap.size) := Lib.hid ⟨add_actD hLg.out ⟨by simp only; omega, hzs⟩, hrow9, hs9.mono (by rw [hln]; omega), hd9, hz9⟩
            clear hown9 hgr9 hnil hgA hs9 hd9 hz9 hrow9
            go_wp2
            go_roundw
            case rel => exact ⟨L ++ [⟨y, z⟩], k - 1, by rw [Int.natCast_sub (by omega)]; rfl, by rw [hln]; omega, hrel9.out.1, hrel9.out.2.1, hrel9.out.2.2.1, hrel9.out.2.2.2.1, hrel9.out.2.2.2.2⟩
            case measure => simp [intOf]; omega
          · have g0 : (y == 0) = false := beq_eq_false_iff_ne.2 hy0
            clear hy0
            have h63 : L.length + 1 ≤ maxLen := by unfold maxLen; omega
            have hby : (L.length + 1) * 24 ≤ 140737488355328 := by omega
            go_wp2_with (at_builtin; refine wpList_append_own _ rfl _ _ 54 rfl N 57 i0 _ 2 24 Try.underlying54 hi hz0 hz1 hz2 rfl (by decide) _ _ _ rfl ((hrow7.alloc _).alloc _) ⟨w7.heap.size + 1, 0, none⟩ 1 1 [.int .i64 y, .string ⟨#[]⟩] rfl rfl ?a1 ?b1 h63 hby ?e1 ?_)
            case a1 =>
              intro i u hi
              match i, hi with
              | 0, hi => cases hi; exact cell_new (by simp [Addr.add]) rfl
              | 1, hi => cases hi; exact cell_new (by simp [Addr.add]) rfl
              | i + 2, hi => simp at hi
            case b1 =>
              intro u hu
              simp only [List.mem_cons, List.not_mem_nil, or_false] at hu
              rcases hu with rfl | rfl <;> rfl
            case e1 => simp; omega
            intro v' w9 hown9 hgr9 hnil
            have hgA := grown_trans (grown_below (below_a2 w7 _ _) _) hgr9
            have hs9 := SrcAt.grownO hs7 hgA (fun q hq => by have := act_base hrow7 q hq; omega)
            have hd9 := Drawn.youngO hd7 hgA hz7 (fun q hq => act_base hrow7 q hq)
            have hz9 := Nat.le_trans hz7 hgA.size
            have hln : (L ++ [(⟨y, ⟨#[]⟩⟩ : ActD)]).length = L.length + 1 := by simp
            have hrow9 : w9.ownsRow N 57 2 v' (L ++ [(⟨y, ⟨#[]⟩⟩ : ActD)]).length ((L ++ [(⟨y, ⟨#[]⟩⟩ : ActD)]).flatMap ActD.cells) := by
              rw [hln, acts_snoc4]
              exact hown9
            have hrel9 : Hid ((∀ x ∈ L ++ [(⟨y, ⟨#[]⟩⟩ : ActD)], actD x) ∧ w9.ownsRow N 57 2 v' (L ++ [(⟨y, ⟨#[]⟩⟩ : ActD)]).length ((L ++ [(⟨y, ⟨#[]⟩⟩ : ActD)]).flatMap ActD.cells) ∧ SrcAt w9 r (t + 6 + 6 * (L ++ [(⟨y, ⟨#[]⟩⟩ : ActD)]).length) ∧ Drawn r N w w9 ∧ N ≤ w9.heap.size) := Lib.hid ⟨add_actD hLg.out ⟨by simp only; omega, Nat.zero_le _⟩, hrow9, hs9.mono (by rw [hln]; omega), hd9, hz9⟩
            clear hown9 hgr9 hnil hgA hs9 hd9 hz9 hrow9
            go_wp2
            go_roundw
            case rel => exact ⟨L ++ [⟨y, ⟨#[]⟩⟩], k - 1, by rw [Int.natCast_sub (by omega)]; rfl, by rw [hln]; omega, hrel9.out.1, hrel9.out.2.1, hrel9.out.2.2.1, hrel9.out.2.2.2.1, hrel9.out.2.2.2.2⟩
            case measure => simp [intOf]; omega
      · obtain rfl : k = 0 := by omega
        have gk : decide ((0 : Int) < ((0 : Nat) : Int)) = false := rfl
        have hLm : L.length = m := by omega
        subst hLm
        by_cases hm0 : 0 < L.length
        · have gm : decide ((0 : Int) < (L.length : Int)) = true := decide_eq_true (by omega)
          obtain ⟨g, cap, hv, hgN, hgw, hcap, hcell, hfro, hset⟩ := owns_at hrow hm0
          subst hv
          have hpk := Lib.hid (pick_any r (t + 6 + 6 * L.length) (L.length : Int) wr hs (by omega) (by omega))
          clear hcell hfro hset
          go_wp2_with fail
          refine hpk.out.mono ?_
          rintro e wa ⟨y, rfl, ya, yb, yc, hsa, hga⟩
          obtain ⟨i, rfl⟩ : ∃ i : Nat, y = (i : Int) := ⟨y.toNat, by omega⟩
          have him : i < L.length := by
            by_cases h1 : 1 < (L.length : Int)
            · have := yb h1
              omega
            · have := yc (by omega)
              omega
          clear yb yc hpk
          have hrowa := owns_past hrow hga (by omega)
          have hda := hd.pick hga hz
          have hza := Nat.le_trans hz hga.size
          have hi1 : (i : Int) < (L.length : Int) := by omega
          have hpq := Lib.hid (pick_any r (t + 6 + 6 * L.length + 2) 30 wa hsa (by omega) (by omega))
          clear hrow hd hs hga
          go_wp2_with fail
          refine hpq.out.mono ?_
          rintro e wb ⟨z, rfl, za, zb, _, hsb, hgb⟩
          have hrowb := owns_past hrowa hgb (by omega)
          have hdb := hda.pick hgb hza
          have hzb := Nat.le_trans hza hgb.size
          obtain ⟨x, hx⟩ : ∃ x, L[i]? = some x := ⟨_, List.getElem?_eq_getElem him⟩
          have hxg := hLg.out x (List.mem_of_getElem? hx)
          clear hpq hrowa hda hsa hgb hza
          by_cases hz00 : z = 0
          · have gz : (z == 0) = true := beq_iff_eq.2 hz00
            clear hz00
            have hbS := below_a1 wb (.cells (List.map (fun x => Value.int .i64 x) [-1, 0, 5, 6]).toArray 2)
            have hSl := ints_lit wb [-1, 0, 5, 6] 2 4 rfl
            have hsS := hsb.below hbS
            have hrowS := owns_still hrowb hbS
            have hdS := hdb.below hbS hzb
            have hzS := Nat.le_trans hzb hbS.size
            go_wp2_with fail
            refine (among_any r (t + 6 + 6 * L.length + 2 + 2) (some ⟨wb.heap.size, 0, none⟩) 4 4 [-1, 0, 5, 6] _ hsS (by omega) hSl (by omega) (by omega) (fun p hp => by cases hp; simp only; omega)).mono ?_
            rintro e wc ⟨y, hy, rfl, hsc, hgc⟩
            have hyb : -1 ≤ y ∧ y ≤ 6 := by simp only [List.mem_cons, List.not_mem_nil, or_false] at hy; omega
            have hrowc := owns_past hrowS hgc (by omega)
            have hdc := hdS.pick hgc hzS
            have hzc := Nat.le_trans hzS hgc.size
            obtain ⟨g', cap', hv', hgN', hgw', hcap', hcell', hfro', hset'⟩ := owns_at hrowc hm0
            cases hv'
            obtain ⟨cc0, cc1⟩ := acts_cell0 hx
            have dd0 := hcell' _ _ cc0
            have dd1 := hcell' _ _ cc1
            have ff := hfro' (i * 2)
            obtain ⟨hgS, hrS⟩ := hset' (i * 2) (.int .i64 y)
            replace hrS := hrS (by rw [acts_len]; omega)
            rw [acts_set0 _ hx] at hrS
            have hsF := hsc.grown hgS (by omega)
            have hdF := hdc.young hgS hzc hgN
            have hgF : Hid (∀ u ∈ L.set i ⟨y, x.letter⟩, actD u) := Lib.hid (set_actD hLg.out i ⟨by simp only; omega, hxg.2⟩)
            have hlF : (L.set i ⟨y, x.letter⟩).length = L.length := List.length_set
            clear hcell' hfro' hset' hy hSl hbS hsS hrowS hdS cc0 cc1 hgc hgS hx hxg
            go_wp2
            go_ret
            subst hN
            exact ⟨_, _, _, L.set i ⟨y, x.letter⟩, rfl, by omega, hcap, hrS, hlF, hgF.out, hsF.mono (by omega), hdF⟩
          · have gz : (z == 0) = false := beq_eq_false_iff_ne.2 hz00
            clear hz00
            by_cases hz1' : z = 1
            · have gz1 : (z == 1) = true := beq_iff_eq.2 hz1'
              clear hz1'
              have hbS := below_a1 wb (.cells (List.map Value.string [⟨#[]⟩, ⟨#[97]⟩, ⟨#[32]⟩, ⟨#[97, 98]⟩]).toArray 9)
              have hSl := strs_lit wb [⟨#[]⟩, ⟨#[97]⟩, ⟨#[32]⟩, ⟨#[97, 98]⟩] 9 4 rfl
              have hsS := hsb.below hbS
              have hrowS := owns_still hrowb hbS
              have hdS := hdb.below hbS hzb
              have hzS := Nat.le_trans hzb hbS.size
              go_wp2_with fail
              refine (text_any r (t + 6 + 6 * L.length + 2 + 2) (some ⟨wb.heap.size, 0, none⟩) 4 4 [⟨#[]⟩, ⟨#[97]⟩, ⟨#[32]⟩, ⟨#[97, 98]⟩] _ hsS (by omega) hSl (by omega) (by omega) (fun p hp => by cases hp; simp only; omega)).mono ?_
              rintro e wc ⟨y, hy, rfl, hsc, hgc⟩
              have hyb : y.size ≤ 2 := by
                simp only [List.mem_cons, List.not_mem_nil, or_false] at hy
                rcases hy with rfl | rfl | rfl | rfl <;> decide
              have hrowc := owns_past hrowS hgc (by omega)
              have hdc := hdS.pick hgc hzS
              have hzc := Nat.le_trans hzS hgc.size
              obtain ⟨g', cap', hv', hgN', hgw', hcap', hcell', hfro', hset'⟩ := owns_at hrowc hm0
              cases hv'
              obtain ⟨cc0, cc1⟩ := acts_cell0 hx
              have dd0 := hcell' _ _ cc0
              have dd1 := hcell' _ _ cc1
              have ff := hfro' (i * 2 + 1)
              obtain ⟨hgS, hrS⟩ := hset' (i * 2 + 1) (.string y)
              replace hrS := hrS (by rw [acts_len]; omega)
              rw [acts_set1 _ hx] at hrS
              have hsF := hsc.grown hgS (by omega)
              have hdF := hdc.young hgS hzc hgN
              have hgF : Hid (∀ u ∈ L.set i ⟨x.kind, y⟩, actD u) := Lib.hid (set_actD hLg.out i ⟨hxg.1, hyb⟩)
              have hlF : (L.set i ⟨x.kind, y⟩).length = L.length := List.length_set
              clear hcell' hfro' hset' hy hSl hbS hsS hrowS hdS cc0 cc1 hgc hgS hx hxg
              go_wp2
              go_ret
              subst hN
              exact ⟨_, _, _, L.set i ⟨x.kind, y⟩, rfl, by omega, hcap, hrS, hlF, hgF.out, hsF.mono (by omega), hdF⟩
            · have gz1 : (z == 1) = false := beq_eq_false_iff_ne.2 hz1'
              clear hz1'
              go_wp2
              go_ret
              subst hN
              exact ⟨_, _, _, L, rfl, by omega, hcap, hrowb, rfl, hLg.out, hsb.mono (by omega), hdb⟩
        · have gm : decide ((0 : Int) < (L.length : Int)) = false := decide_eq_false (by omega)
          obtain ⟨A, c, rfl⟩ := owns_slice hrow
          have hcap := owns_cap hrow
          go_wp2
          go_ret
          subst hN
          exact ⟨A, _, c, L, rfl, by omega, hcap, hrow, rfl, hLg.out, hs.mono (by omega), hd⟩
  | false =>
    obtain ⟨m, rfl⟩ : ∃ m : Nat, x1 = (m : Int) := ⟨x1.toNat, by omega⟩
    have hm1 : m ≤ 201 := by omega
    go_wp2
    go_loopw [3, 5] (fun v kv wr => ∃ (L : List ActD) (k : Nat), kv = .int .i64 (k : Int) ∧ L.length + k = m ∧ (∀ x ∈ L, actD x) ∧ wr.ownsRow N 57 2 v L.length (L.flatMap ActD.cells) ∧ SrcAt wr r (t + 6 + 6 * L.length) ∧ Drawn r N w wr ∧ N ≤ wr.heap.size) (fun _ kv _ => (intOf kv).toNat)
    case atStart => exact ⟨[], m, rfl, by simp, (fun _ hx => by cases hx), hrow3, hs3.mono (by show _ ≤ t + 6 + 6 * 0; omega), hd3, hz3⟩
    case round =>
      rename World => wr
      obtain ⟨L, k, rfl, hLk, hLg, hrow, hs, hd, hz⟩ := hrel
      replace hLg := Lib.hid hLg
      by_cases hk : 0 < k
      · have gk : decide ((0 : Int) < (k : Int)) = true := decide_eq_true (by omega)
        have hb5 := below_a1 wr (.cells (List.map (fun x => Value.int .i64 x) [0, 0, 0, 1, 2, 3, 5]).toArray 2)
        have hI5 := ints_lit wr [0, 0, 0, 1, 2, 3, 5] 2 7 rfl
        have hs5 := hs.below hb5
        have hrow5 := owns_still hrow hb5
        have hd5 := hd.below hb5 hz
        have hz5 := Nat.le_trans hz hb5.size
        clear hrow hs hd
        go_wp2_with fail
        refine (among_any r (t + 6 + 6 * L.length) (some ⟨wr.heap.size, 0, none⟩) 7 7 [0, 0, 0, 1, 2, 3, 5] _ hs5 (by omega) hI5 (by omega) (by omega) (fun p hp => by cases hp; simp only; omega)).mono ?_
        rintro e w6 ⟨y, hy, rfl, hs6, hg6⟩
        have hyb : 0 ≤ y ∧ y ≤ 5 := by simp only [List.mem_cons, List.not_mem_nil, or_false] at hy; omega
        have hrow6 := owns_past hrow5 hg6 (by omega)
        have hd6 := hd5.pick hg6 hz5
        have hz6 := Nat.le_trans hz5 hg6.size
        have ho6 := Lib.hid (one_any r (t + 6 + 6 * L.length + 2) 20 w6 hs6 (by omega) (by omega))
        clear hy hI5 hb5 hs5 hrow5 hd5 hz5 hg6
        go_wp2_with fail
        refine ho6.out.mono ?_
        rintro e w7 ⟨b7, rfl, hs7, hg7⟩
        have hrow7 := owns_past hrow6 hg7 (by omega)
        have hd7 := hd6.pick hg7 hz6
        have hz7 := Nat.le_trans hz6 hg7.size
        clear hrow6 hd6 hz6 hs6 ho6 hg7
        cases b7 with
        | true =>
          have h63 : L.length + 1 ≤ maxLen := by unfold maxLen; omega
          have hby : (L.length + 1) * 24 ≤ 140737488355328 := by omega
          go_wp2_with (at_builtin; refine wpList_append_own _ rfl _ _ 54 rfl N 57 i0 _ 2 24 Try.underlying54 hi hz0 hz1 hz2 rfl (by decide) _ _ _ rfl ((hrow7.alloc _).alloc _) ⟨w7.heap.size + 1, 0, none⟩ 1 1 [.int .i64 4, .string ⟨#[]⟩] rfl rfl ?a1 ?b1 h63 hby ?e1 ?_)
          case a1 =>
            intro i u hi
            match i, hi with
            | 0, hi => cases hi; exact cell_new (by simp [Addr.add]) rfl
            | 1, hi => cases hi; exact cell_new (by simp [Addr.add]) rfl
            | i + 2, hi => simp at hi
          case b1 =>
            intro u hu
            simp only [List.mem_cons, List.not_mem_nil, or_false] at hu
            rcases hu with rfl | rfl <;> rfl
          case e1 => simp; omega
          intro v' w9 hown9 hgr9 hnil
          have hgA := grown_trans (grown_below (below_a2 w7 _ _) _) hgr9
          have hs9 := SrcAt.grownO hs7 hgA (fun q hq => by have := act_base hrow7 q hq; omega)
          have hd9 := Drawn.youngO hd7 hgA hz7 (fun q hq => act_base hrow7 q hq)
          have hz9 := Nat.le_trans hz7 hgA.size
          have hln : (L ++ [(⟨4, ⟨#[]⟩⟩ : ActD)]).length = L.length + 1 := by simp
          have hrow9 : w9.ownsRow N 57 2 v' (L ++ [(⟨4, ⟨#[]⟩⟩ : ActD)]).length ((L ++ [(⟨4, ⟨#[]⟩⟩ : ActD)]).flatMap ActD.cells) := by
            rw [hln, acts_snoc4]
            exact hown9
          have hrel9 : Hid ((∀ x ∈ L ++ [(⟨4, ⟨#[]⟩⟩ : ActD)], actD x) ∧ w9.ownsRow N 57 2 v' (L ++ [(⟨4, ⟨#[]⟩⟩ : ActD)]).length ((L ++ [(⟨4, ⟨#[]⟩⟩ : ActD)]).flatMap ActD.cells) ∧ SrcAt w9 r (t + 6 + 6 * (L ++ [(⟨4, ⟨#[]⟩⟩ : ActD)]).length) ∧ Drawn r N w w9 ∧ N ≤ w9.heap.size) := Lib.hid ⟨add_actD hLg.out ⟨by simp only; omega, Nat.zero_le _⟩, hrow9, hs9.mono (by rw [hln]; omega), hd9, hz9⟩
          clear hown9 hgr9 hnil hgA hs9 hd9 hz9 hrow9
          go_wp2
          go_roundw
          case rel => exact ⟨L ++ [⟨4, ⟨#[]⟩⟩], k - 1, by rw [Int.natCast_sub (by omega)]; rfl, by rw [hln]; omega, hrel9.out.1, hrel9.out.2.1, hrel9.out.2.2.1, hrel9.out.2.2.2.1, hrel9.out.2.2.2.2⟩
          case measure => simp [intOf]; omega
        | false =>
          by_cases hy0 : y = 0
          · have g0 : (y == 0) = true := beq_iff_eq.2 hy0
            have hbA := below_a1 w7 (.cells #[.int .i64 y, .string ⟨#[]⟩] 57)
            have hcA : (w7.alloc (.cells #[.int .i64 y, .string ⟨#[]⟩] 57)).cell? ⟨w7.heap.size, 0, none⟩ = some (.int .i64 y) := cell_new rfl rfl
            have hcB : (w7.alloc (.cells #[.int .i64 y, .string ⟨#[]⟩] 57)).cell? ⟨w7.heap.size, 1, none⟩ = some (.string ⟨#[]⟩) := cell_new rfl rfl
            have hsA := hs7.below hbA
            have hrowA := owns_still hrow7 hbA
            have hdA := hd7.below hbA hz7
            have hzA := Nat.le_trans hz7 hbA.size
            have hzB : (w7.alloc (.cells #[.int .i64 y, .string ⟨#[]⟩] 57)).heap.size = w7.heap.size + 1 := by simp
            have hrA : World.rowIs (w7.alloc (.cells #[.int .i64 y, .string ⟨#[]⟩] 57)) w7.heap.size 57 2 (fun j => (#[Value.int .i64 y, .string ⟨#[]⟩][j]?).getD undef) := by
              refine ⟨_, heap_alloc_new _ _, rfl, fun i hi => ?_⟩
              match i, hi with
              | 0, _ => rfl
              | 1, _ => rfl
            clear hy0
            go_wp2_with fail
            generalize w7.alloc (.cells #[.int .i64 y, .string ⟨#[]⟩] 57) = wA at *
            have hSl := strs_lit wA [⟨#[97]⟩, ⟨#[98]⟩, ⟨#[45]⟩, ⟨#[47]⟩] 9 4 rfl
            rw [hzB] at hSl
            have hbS := below_a1 wA (.cells (List.map Value.string [⟨#[97]⟩, ⟨#[98]⟩, ⟨#[45]⟩, ⟨#[47]⟩]).toArray 9)
            refine (text_any r (t + 6 + 6 * L.length + 2 + 2) (some ⟨w7.heap.size + 1, 0, none⟩) 4 4 [⟨#[97]⟩, ⟨#[98]⟩, ⟨#[45]⟩, ⟨#[47]⟩] _ (hsA.below hbS) (by omega) hSl (by omega) (by omega) (fun p hp => by cases hp; simp only; omega)).mono ?_
            rintro e w8 ⟨z, hz8, rfl, hs8, hg8⟩
            have hzs : z.size ≤ 2 := by
              simp only [List.mem_cons, List.not_mem_nil, or_false] at hz8
              rcases hz8 with rfl | rfl | rfl | rfl <;> decide
            have hrS := hrA.of_block (hbS.block _ hrA.lt)
            have hr8 := hrS.of_block (hg8.block _ hrS.lt (fun e => by cases e; omega))
            have hrow8 := owns_past (owns_still hrowA hbS) hg8 (by omega)
            have hd8 := (hdA.below hbS hzA).pick hg8 (Nat.le_trans hzA hbS.size)
            have hz8' := Nat.le_trans (Nat.le_trans hzA hbS.size) hg8.size
            have q0 := hr8.cell (i := 0) (by omega)
            have q1 := hr8.cell (i := 1) (by omega)
            have q2 := hr8.frozen 1
            have ql := hr8.lt
            clear hz8 hSl hbS hrA hrS hsA hrowA hdA hcA hcB hbA
            have hgS : w8.grownBy (w8.setCell ⟨w7.heap.size, 1, none⟩ (.string z)) (some w7.heap.size) := grown_set
            have hrowS := owns_young hrow8 hrow7 hgS (Nat.le_refl _)
            have hs8Z := hs8.grown hgS (by omega)
            have hd8Z := hd8.young hgS hz8' hz7
            have hz8Z := Nat.le_trans hz8' hgS.size
            have h63 : L.length + 1 ≤ maxLen := by unfold maxLen; omega
            have hby : (L.length + 1) * 24 ≤ 140737488355328 := by omega
            go_wp2_with (at_builtin; refine wpList_append_own _ rfl _ _ 54 rfl N 57 i0 _ 2 24 Try.underlying54 hi hz0 hz1 hz2 rfl (by decide) _ _ _ rfl (hrowS.alloc _) ⟨w8.heap.size, 0, none⟩ 1 1 [.int .i64 y, .string z] rfl rfl ?a1 ?b1 h63 hby ?e1 ?_)
            case a1 =>
              intro i u hi
              match i, hi with
              | 0, hi => cases hi; exact cell_new (by simp [Addr.add]) rfl
              | 1, hi => cases hi; exact cell_new (by simp [Addr.add]) rfl
              | i + 2, hi => simp at hi
            case b1 =>
              intro u hu
              simp only [List.mem_cons, List.not_mem_nil, or_false] at hu
              rcases hu with rfl | rfl <;> rfl
            case e1 => simp; omega
            intro v' w9 hown9 hgr9 hnil
            have hgA := grown_trans (grown_below (below_a1 _ _) _) hgr9
            have hs9 := SrcAt.grownO hs8Z hgA (fun q hq => by have := act_base hrow7 q hq; omega)
            have hd9 := Drawn.youngO hd8Z hgA hz8Z (fun q hq => act_base hrow7 q hq)
            have hz9 := Nat.le_trans hz8Z hgA.size
            have hln : (L ++ [(⟨y, z⟩ : ActD)]).length = L.length + 1 := by simp
            have hrow9 : w9.ownsRow N 57 2 v' (L ++ [(⟨y, z⟩ : ActD)]).length ((L ++ [(⟨y, z⟩ : ActD)]).flatMap ActD.cells) := by
              rw [hln, acts_snoc4]
              exact hown9
            have hrel9 : Hid ((∀ x ∈ L ++ [(⟨y, z⟩ : ActD)], actD x) ∧ w9.ownsRow N 57 2 v' (L ++ [(⟨y, z⟩ : ActD)]).length ((L ++ [(⟨y, z⟩ : ActD)]).flatMap ActD.cells) ∧ SrcAt w9 r (t + 6 + 6 * (L ++ [(⟨y, z⟩ : ActD)]).length) ∧ Drawn r N w w9 ∧ N ≤ w9.heap.size) := Lib.hid ⟨add_actD hLg.out ⟨by simp only; omega, hzs⟩, hrow9, hs9.mono (by rw [hln]; omega), hd9, hz9⟩
            clear hown9 hgr9 hnil hgA hs9 hd9 hz9 hrow9
            go_wp2
            go_roundw
            case rel => exact ⟨L ++ [⟨y, z⟩], k - 1, by rw [Int.natCast_sub (by omega)]; rfl, by rw [hln]; omega, hrel9.out.1, hrel9.out.2.1, hrel9.out.2.2.1, hrel9.out.2.2.2.1, hrel9.out.2.2.2.2⟩
            case measure => simp [intOf]; omega
          · have g0 : (y == 0) = false := beq_eq_false_iff_ne.2 hy0
            clear hy0
            have h63 : L.length + 1 ≤ maxLen := by unfold maxLen; omega
            have hby : (L.length + 1) * 24 ≤ 140737488355328 := by omega
            go_wp2_with (at_builtin; refine wpList_append_own _ rfl _ _ 54 rfl N 57 i0 _ 2 24 Try.underlying54 hi hz0 hz1 hz2 rfl (by decide) _ _ _ rfl ((hrow7.alloc _).alloc _) ⟨w7.heap.size + 1, 0, none⟩ 1 1 [.int .i64 y, .string ⟨#[]⟩] rfl rfl ?a1 ?b1 h63 hby ?e1 ?_)
            case a1 =>
              intro i u hi
              match i, hi with
              | 0, hi => cases hi; exact cell_new (by simp [Addr.add]) rfl
              | 1, hi => cases hi; exact cell_new (by simp [Addr.add]) rfl
              | i + 2, hi => simp at hi
            case b1 =>
              intro u hu
              simp only [List.mem_cons, List.not_mem_nil, or_false] at hu
              rcases hu with rfl | rfl <;> rfl
            case e1 => simp; omega
            intro v' w9 hown9 hgr9 hnil
            have hgA := grown_trans (grown_below (below_a2 w7 _ _) _) hgr9
            have hs9 := SrcAt.grownO hs7 hgA (fun q hq => by have := act_base hrow7 q hq; omega)
            have hd9 := Drawn.youngO hd7 hgA hz7 (fun q hq => act_base hrow7 q hq)
            have hz9 := Nat.le_trans hz7 hgA.size
            have hln : (L ++ [(⟨y, ⟨#[]⟩⟩ : ActD)]).length = L.length + 1 := by simp
            have hrow9 : w9.ownsRow N 57 2 v' (L ++ [(⟨y, ⟨#[]⟩⟩ : ActD)]).length ((L ++ [(⟨y, ⟨#[]⟩⟩ : ActD)]).flatMap ActD.cells) := by
              rw [hln, acts_snoc4]
              exact hown9
            have hrel9 : Hid ((∀ x ∈ L ++ [(⟨y, ⟨#[]⟩⟩ : ActD)], actD x) ∧ w9.ownsRow N 57 2 v' (L ++ [(⟨y, ⟨#[]⟩⟩ : ActD)]).length ((L ++ [(⟨y, ⟨#[]⟩⟩ : ActD)]).flatMap ActD.cells) ∧ SrcAt w9 r (t + 6 + 6 * (L ++ [(⟨y, ⟨#[]⟩⟩ : ActD)]).length) ∧ Drawn r N w w9 ∧ N ≤ w9.heap.size) := Lib.hid ⟨add_actD hLg.out ⟨by simp only; omega, Nat.zero_le _⟩, hrow9, hs9.mono (by rw [hln]; omega), hd9, hz9⟩
            clear hown9 hgr9 hnil hgA hs9 hd9 hz9 hrow9
            go_wp2
            go_roundw
            case rel => exact ⟨L ++ [⟨y, ⟨#[]⟩⟩], k - 1, by rw [Int.natCast_sub (by omega)]; rfl, by rw [hln]; omega, hrel9.out.1, hrel9.out.2.1, hrel9.out.2.2.1, hrel9.out.2.2.2.1, hrel9.out.2.2.2.2⟩
            case measure => simp [intOf]; omega
      · obtain rfl : k = 0 := by omega
        have gk : decide ((0 : Int) < ((0 : Nat) : Int)) = false := rfl
        have hLm : L.length = m := by omega
        subst hLm
        by_cases hm0 : 0 < L.length
        · have gm : decide ((0 : Int) < (L.length : Int)) = true := decide_eq_true (by omega)
          obtain ⟨g, cap, hv, hgN, hgw, hcap, hcell, hfro, hset⟩ := owns_at hrow hm0
          subst hv
          have hpk := Lib.hid (pick_any r (t + 6 + 6 * L.length) (L.length : Int) wr hs (by omega) (by omega))
          clear hcell hfro hset
          go_wp2_with fail
          refine hpk.out.mono ?_
          rintro e wa ⟨y, rfl, ya, yb, yc, hsa, hga⟩
          obtain ⟨i, rfl⟩ : ∃ i : Nat, y = (i : Int) := ⟨y.toNat, by omega⟩
          have him : i < L.length := by
            by_cases h1 : 1 < (L.length : Int)
            · have := yb h1
              omega
            · have := yc (by omega)
              omega
          clear yb yc hpk
          have hrowa := owns_past hrow hga (by omega)
          have hda := hd.pick hga hz
          have hza := Nat.le_trans hz hga.size
          have hi1 : (i : Int) < (L.length : Int) := by omega
          have hpq := Lib.hid (pick_any r (t + 6 + 6 * L.length + 2) 30 wa hsa (by omega) (by omega))
          clear hrow hd hs hga
          go_wp2_with fail
          refine hpq.out.mono ?_
          rintro e wb ⟨z, rfl, za, zb, _, hsb, hgb⟩
          have hrowb := owns_past hrowa hgb (by omega)
          have hdb := hda.pick hgb hza
          have hzb := Nat.le_trans hza hgb.size
          obtain ⟨x, hx⟩ : ∃ x, L[i]? = some x := ⟨_, List.getElem?_eq_getElem him⟩
          have hxg := hLg.out x (List.mem_of_getElem? hx)
          clear hpq hrowa hda hsa hgb hza
          by_cases hz00 : z = 0
          · have gz : (z == 0) = true := beq_iff_eq.2 hz00
            clear hz00
            have hbS := below_a1 wb (.cells (List.map (fun x => Value.int .i64 x) [-1, 0, 5, 6]).toArray 2)
            have hSl := ints_lit wb [-1, 0, 5, 6] 2 4 rfl
            have hsS := hsb.below hbS
            have hrowS := owns_still hrowb hbS
            have hdS := hdb.below hbS hzb
            have hzS := Nat.le_trans hzb hbS.size
            go_wp2_with fail
            refine (among_any r (t + 6 + 6 * L.length + 2 + 2) (some ⟨wb.heap.size, 0, none⟩) 4 4 [-1, 0, 5, 6] _ hsS (by omega) hSl (by omega) (by omega) (fun p hp => by cases hp; simp only; omega)).mono ?_
            rintro e wc ⟨y, hy, rfl, hsc, hgc⟩
            have hyb : -1 ≤ y ∧ y ≤ 6 := by simp only [List.mem_cons, List.not_mem_nil, or_false] at hy; omega
            have hrowc := owns_past hrowS hgc (by omega)
            have hdc := hdS.pick hgc hzS
            have hzc := Nat.le_trans hzS hgc.size
            obtain ⟨g', cap', hv', hgN', hgw', hcap', hcell', hfro', hset'⟩ := owns_at hrowc hm0
            cases hv'
            obtain ⟨cc0, cc1⟩ := acts_cell0 hx
            have dd0 := hcell' _ _ cc0
            have dd1 := hcell' _ _ cc1
            have ff := hfro' (i * 2)
            obtain ⟨hgS, hrS⟩ := hset' (i * 2) (.int .i64 y)
            replace hrS := hrS (by rw [acts_len]; omega)
            rw [acts_set0 _ hx] at hrS
            have hsF := hsc.grown hgS (by omega)
            have hdF := hdc.young hgS hzc hgN
            have hgF : Hid (∀ u ∈ L.set i ⟨y, x.letter⟩, actD u) := Lib.hid (set_actD hLg.out i ⟨by simp only; omega, hxg.2⟩)
            have hlF : (L.set i ⟨y, x.letter⟩).length = L.length := List.length_set
            clear hcell' hfro' hset' hy hSl hbS hsS hrowS hdS cc0 cc1 hgc hgS hx hxg
            go_wp2
            go_ret
            subst hN
            exact ⟨_, _, _, L.set i ⟨y, x.letter⟩, rfl, by omega, hcap, hrS, hlF, hgF.out, hsF.mono (by omega), hdF⟩
          · have gz : (z == 0) = false := beq_eq_false_iff_ne.2 hz00
            clear hz00
            by_cases hz1' : z = 1
            · have gz1 : (z == 1) = true := beq_iff_eq.2 hz1'
              clear hz1'
              have hbS := below_a1 wb (.cells (List.map Value.string [⟨#[]⟩, ⟨#[97]⟩, ⟨#[32]⟩, ⟨#[97, 98]⟩]).toArray 9)
              have hSl := strs_lit wb [⟨#[]⟩, ⟨#[97]⟩, ⟨#[32]⟩, ⟨#[97, 98]⟩] 9 4 rfl
              have hsS := hsb.below hbS
              have hrowS := owns_still hrowb hbS
              have hdS := hdb.below hbS hzb
              have hzS := Nat.le_trans hzb hbS.size
              go_wp2_with fail
              refine (text_any r (t + 6 + 6 * L.length + 2 + 2) (some ⟨wb.heap.size, 0, none⟩) 4 4 [⟨#[]⟩, ⟨#[97]⟩, ⟨#[32]⟩, ⟨#[97, 98]⟩] _ hsS (by omega) hSl (by omega) (by omega) (fun p hp => by cases hp; simp only; omega)).mono ?_
              rintro e wc ⟨y, hy, rfl, hsc, hgc⟩
              have hyb : y.size ≤ 2 := by
                simp only [List.mem_cons, List.not_mem_nil, or_false] at hy
                rcases hy with rfl | rfl | rfl | rfl <;> decide
              have hrowc := owns_past hrowS hgc (by omega)
              have hdc := hdS.pick hgc hzS
              have hzc := Nat.le_trans hzS hgc.size
              obtain ⟨g', cap', hv', hgN', hgw', hcap', hcell', hfro', hset'⟩ := owns_at hrowc hm0
              cases hv'
              obtain ⟨cc0, cc1⟩ := acts_cell0 hx
              have dd0 := hcell' _ _ cc0
              have dd1 := hcell' _ _ cc1
              have ff := hfro' (i * 2 + 1)
              obtain ⟨hgS, hrS⟩ := hset' (i * 2 + 1) (.string y)
              replace hrS := hrS (by rw [acts_len]; omega)
              rw [acts_set1 _ hx] at hrS
              have hsF := hsc.grown hgS (by omega)
              have hdF := hdc.young hgS hzc hgN
              have hgF : Hid (∀ u ∈ L.set i ⟨x.kind, y⟩, actD u) := Lib.hid (set_actD hLg.out i ⟨hxg.1, hyb⟩)
              have hlF : (L.set i ⟨x.kind, y⟩).length = L.length := List.length_set
              clear hcell' hfro' hset' hy hSl hbS hsS hrowS hdS cc0 cc1 hgc hgS hx hxg
              go_wp2
              go_ret
              subst hN
              exact ⟨_, _, _, L.set i ⟨x.kind, y⟩, rfl, by omega, hcap, hrS, hlF, hgF.out, hsF.mono (by omega), hdF⟩
            · have gz1 : (z == 1) = false := beq_eq_false_iff_ne.2 hz1'
              clear hz1'
              go_wp2
              go_ret
              subst hN
              exact ⟨_, _, _, L, rfl, by omega, hcap, hrowb, rfl, hLg.out, hsb.mono (by omega), hdb⟩
        · have gm : decide ((0 : Int) < (L.length : Int)) = false := decide_eq_false (by omega)
          obtain ⟨A, c, rfl⟩ := owns_slice hrow
          have hcap := owns_cap hrow
          go_wp2
          go_ret
          subst hN
          exact ⟨A, _, c, L, rfl, by omega, hcap, hrow, rfl, hLg.out, hs.mono (by omega), hd⟩
end Go.Proofs.Ytphhpmnigchooaa
