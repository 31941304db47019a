/- Centring: the program's lines in a struct, boxes and blocks. -/
import Derived.Test.YtalmpiffjghhkaaCen5
import Derived.Test.YtalmpiffjghhkaaRep
namespace Go.Proofs.Ytalmpiffjghhkaa
open Go.RowKit Go.ChangeShapes Go.WideShapes Go.Deep
set_option linter.unusedVariables false
set_option linter.unusedSimpArgs false

/-- Lines that stand in the first cell of a block. -/
def Typed (B b : Nat) (T : TypeId) (rest : List Value) (L : List ByteArray) (w : World) : Prop :=
  B ≤ b ∧ ∃ v, w.heap[b]? = some (.cells (v :: rest).toArray T) ∧ w.ownsRow B 9 1 v L.length (L.flatMap strC) ∧ v.ownBlock ≠ some b
theorem own_block10 {w w' : World} {base : Nat} {E : TypeId} {size n : Nat} {v : Value} {xs : List Value} (h : w.ownsRow base E size v n xs) (hk : ∀ g, v.ownBlock = some g → w'.heap[g]? = w.heap[g]?) : w'.ownsRow base E size v n xs := by
  obtain ⟨h1, h2 | ⟨g', cap, cur, h3, h4, h5, h6⟩⟩ := h
  · exact ⟨h1, .inl h2⟩
  · subst h3
    exact ⟨h1, .inr ⟨g', cap, cur, rfl, h4, (hk g' rfl).trans h5, h6⟩⟩
theorem own_lt10 {w : World} {base : Nat} {E : TypeId} {size n g : Nat} {v : Value} {xs : List Value} (h : w.ownsRow base E size v n xs) (hg : v.ownBlock = some g) : g < w.heap.size := by
  obtain ⟨_, ⟨rfl, _⟩ | ⟨g', cap, cur, rfl, hb, hgg, _⟩⟩ := h
  · cases hg
  · cases hg; exact (Array.getElem?_eq_some_iff.1 hgg).1
theorem Typed.below {B b : Nat} {T : TypeId} {rest : List Value} {L : List ByteArray} {w w' : World} (h : Typed B b T rest L w) (hb : Below w.heap.size w w') : Typed B b T rest L w' := by
  obtain ⟨h1, v, h2, h3, h4⟩ := h
  exact ⟨h1, v, (hb.block _ (own_lt h2)).trans h2, own_keep10 h3 hb, h4⟩
theorem Typed.lt {B b : Nat} {T : TypeId} {rest : List Value} {L : List ByteArray} {w : World} (h : Typed B b T rest L w) : b < w.heap.size := by
  obtain ⟨h1, v, h2, h3, h4⟩ := h
  exact own_lt h2
/-- What a list of texts is, joined. -/
def joinB (xs : List ByteArray) : ByteArray := ⟨(Lib.join (xs.map (·.data.toList)) []).toArray⟩
set_option maxRecDepth 100000 in
set_option maxHeartbeats 3200000 in
theorem add10 (B b : Nat) (T : TypeId) (rest : List Value) (L : List ByteArray) (pb n c : Nat) (xs : List ByteArray) (w : World) (hT : Typed B b T rest L w)
    (hcells : ∀ (j : Nat) x, xs[j]? = some x → w.cell? ⟨pb, 0 + j, none⟩ = some (.string x)) (hpb : pb < w.heap.size) (hn : xs.length = n) (hn1 : n ≤ 10) (hc : n ≤ c) (hL : L.length ≤ 1000) (hB : B ≤ w.heap.size) {J : ByteArray} (hJ : joinB xs = J) (hJs : J.size ≤ 100000) :
    Calls Try.prog 30 #[.pointer (some ⟨b, 0, none⟩), .slice (some ⟨pb, 0, none⟩) n c] w fun e w' => e = .returned (.tuple #[]) ∧ Typed B b T rest (L ++ [J]) w' ∧ Below B w w' := by
  obtain ⟨hBb, v, hbk, hown, hne⟩ := hT
  obtain ⟨A5, c5, rfl⟩ := owns_form8 hown
  obtain ⟨i0, hi, hz0, hz1, hz2⟩ := info_parts Try.infoStr
  have hbd := (Below.refl w.heap.size w).drew
  have hbB : Below B w w.drew := (Below.refl B w).drew
  have hbkd := (hbd.block _ (own_lt hbk)).trans hbk
  have hownd := own_keep10 hown hbd
  have hcd : ∀ (j : Nat) x, xs[j]? = some x → w.drew.cell? ⟨pb, 0 + j, none⟩ = some (.string x) := fun j x hx => cell_step (hcells j x hx) hbd
  have hpd : pb < w.drew.heap.size := Nat.lt_of_lt_of_le hpb hbd.size
  have hjl : (Lib.join (xs.map (·.data.toList)) (⟨#[]⟩ : ByteArray).data.toList).length ≤ 140737488355328 := by
    have : J.size = (Lib.join (xs.map (·.data.toList)) (⟨#[]⟩ : ByteArray).data.toList).length := by rw [← hJ]; simp [joinB, ByteArray.size]
    omega
  have hJn := Lib.hid (fun W hcw hpw => Try.strings_Join pb 0 c xs ⟨#[]⟩ W hcw hpw (by omega) (by omega) hjl)
  rw [hn] at hJn
  rw [show (⟨(Lib.join (xs.map (·.data.toList)) (⟨#[]⟩ : ByteArray).data.toList).toArray⟩ : ByteArray) = J from hJ] at hJn
  have hBd : B ≤ w.drew.heap.size := Nat.le_trans hB hbd.size
  replace hcd := Lib.hid hcd
  clear hbd hcells hpb hjl hJ hown hbk
  go_enter Try.func30, Try.ntmps30
  go_wp2_with fail
  refine wp_region_held_drew (S := fun _ => True) (by kernel_rfl) trivial (fun _ => ?_)
  generalize w.drew = wd at *
  have c0 := own_cell hbkd (o := 0) (u := .slice A5 L.length c5) (by simp)
  have hbl := own_lt hbkd
  refine wpAnyH_take (i := 0) (v := ?vr1_0) rfl (by kernel_rfl) (by kernel_rfl) (by kernel_rfl) (fun _ _ _ h => h) (Or.inl ⟨rfl, ?yr1_0⟩) trivial ?_
  case yr1_0 => (intro w hSw; go_simp; first | done | with_reducible rfl)
  try simp only [List.getElem_toArray, List.getElem_cons_succ, List.getElem_cons_zero, Act.put, List.setIfInBounds_toArray, List.set_cons_zero, List.set_cons_succ]
  refine wpAnyH_take (i := 1) (v := ?vr2_1) rfl (by kernel_rfl) (by kernel_rfl) (by kernel_rfl) (fun _ _ _ h => h) (Or.inl ⟨rfl, ?yr2_1⟩) trivial ?_
  case yr2_1 => (intro w hSw; go_simp; first | done | with_reducible rfl)
  try simp only [List.getElem_toArray, List.getElem_cons_succ, List.getElem_cons_zero, Act.put, List.setIfInBounds_toArray, List.set_cons_zero, List.set_cons_succ]
  refine wpAnyH_take (i := 2) (v := ?vr3_2) rfl (by kernel_rfl) (by kernel_rfl) (by kernel_rfl) (fun _ _ _ h => h) (Or.inl ⟨rfl, ?yr3_2⟩) trivial ?_
  case yr3_2 => (intro w hSw; go_simp; first | done | with_reducible rfl)
  try simp only [List.getElem_toArray, List.getElem_cons_succ, List.getElem_cons_zero, Act.put, List.setIfInBounds_toArray, List.set_cons_zero, List.set_cons_succ]
  refine wpAnyH_take (i := 3) (v := ?vr4_3) rfl (by kernel_rfl) (by kernel_rfl) (by kernel_rfl) (fun _ _ _ h => h) (Or.inl ⟨rfl, ?yr4_3⟩) trivial ?_
  case yr4_3 => (intro w hSw; go_simp; first | done | with_reducible rfl)
  try simp only [List.getElem_toArray, List.getElem_cons_succ, List.getElem_cons_zero, Act.put, List.setIfInBounds_toArray, List.set_cons_zero, List.set_cons_succ]
  refine wpAnyH_take (i := 5) (v := ?vr5_5) rfl (by kernel_rfl) (by kernel_rfl) (by kernel_rfl) (fun _ _ _ h => h) (Or.inl ⟨rfl, ?yr5_5⟩) trivial ?_
  case yr5_5 => (intro w hSw; go_simp; first | done | with_reducible rfl)
  try simp only [List.getElem_toArray, List.getElem_cons_succ, List.getElem_cons_zero, Act.put, List.setIfInBounds_toArray, List.set_cons_zero, List.set_cons_succ]
  refine wpAnyH_ready (rs := [4, 6]) (by kernel_rfl) (by simp) ?_
  refine AllReadyH.cons rfl (fun K hK => ?_) (AllReadyH.cons rfl (fun K hK => ?_) AllReadyH.nil)
  · go_simp
    refine hK.out _ _ trivial (fun _ => ?_)
    clear hK K
    try simp only [List.getElem_toArray, List.getElem_cons_succ, List.getElem_cons_zero, Act.put, List.setIfInBounds_toArray, List.set_cons_zero, List.set_cons_succ]
    refine wpAnyH_ready (rs := [6]) (by kernel_rfl) (by simp) ?_
    refine AllReadyH.cons rfl (fun K hK => ?_) AllReadyH.nil
    go_simp
    refine (hJn.out _ hcd.out hpd).mono ?_
    rintro e w7 ⟨rfl, hb7⟩
    go_wp2_with fail
    refine hK.out _ _ trivial (fun _ => ?_)
    clear hK K
    try simp only [List.getElem_toArray, List.getElem_cons_succ, List.getElem_cons_zero, Act.put, List.setIfInBounds_toArray, List.set_cons_zero, List.set_cons_succ]
    have c7 := cell_step c0 hb7
    have hbk7 := (hb7.block _ hbl).trans hbkd
    have hrw7 := Lib.hid (own_keep10 hownd hb7)
    have hbl7 := own_lt hbk7
    have hbB7 := Lib.hid (below_step10 hbB hb7 hBd)
    have hB7 := Nat.le_trans hBd hb7.size
    clear hb7 hownd hbkd hbB
    refine wpAnyH_ready (rs := [7]) (by kernel_rfl) (by simp) ?_
    refine AllReadyH.cons rfl (fun K hK => ?_) AllReadyH.nil
    go_simp
    refine hK.out _ _ trivial (fun _ => ?_)
    clear hK K
    try simp only [List.getElem_toArray, List.getElem_cons_succ, List.getElem_cons_zero, Act.put, List.setIfInBounds_toArray, List.set_cons_zero, List.set_cons_succ]
    refine wpAnyH_ready (rs := [8]) (by kernel_rfl) (by simp) ?_
    refine AllReadyH.cons rfl (fun K hK => ?_) AllReadyH.nil
    refine step_append_lies _ rfl (.tmp 8) (.tmp 11) 25 rfl B 9 i0 _ 1 16 Try.underlying25 hi hz0 hz1 hz2 rfl (by decide) (.slice A5 L.length c5) L.length (L.flatMap strC) rfl (hrw7.out.alloc _) ⟨w7.heap.size, 0, none⟩ 1 1 [.string J] rfl rfl (news8 _ _ _) (one8s _) (by decide) (by unfold maxLen; omega) (by omega) (by simp; omega) _ rfl (fun g5 cap w5 ho5 hg5 hor hlt5 => ?_)
    have hA5 : ∀ k2, (Value.slice A5 L.length c5).ownBlock = some k2 → B ≤ k2 := fun k2 hk2 => owns_ge8 hrw7.out hk2
    have hb5 : Hid (Below B w w5) := Lib.hid (Below.grown (hbB7.out.alloc (by omega) _) hg5 (by simp; omega) hA5)
    have hbk5 : w5.heap[b]? = some (.cells ((.slice A5 L.length c5) :: rest).toArray T) := (hg5.block b (by simp; omega) (fun e => hne e.symm)).trans ((Lib.alloc_old w7 _ b hbl7).trans hbk7)
    have hg5b : g5 ≠ b := by
      rcases hor with h1 | h1
      · intro e; rw [h1, e] at hne; exact hne rfl
      · simp at h1; omega
    have c5' := own_cell hbk5 (o := 0) (u := .slice A5 L.length c5) (by simp)
    have f5 := own_frozen hbk5 0
    have hbl5 := own_lt hbk5
    have hfin : Hid (Typed B b T rest (L ++ [J]) (w5.setCell ⟨b, 0, none⟩ (.slice (some ⟨g5, 0, none⟩) (L.length + 1) cap)) ∧ Below B w (w5.setCell ⟨b, 0, none⟩ (.slice (some ⟨g5, 0, none⟩) (L.length + 1) cap))) := Lib.hid (by
      refine ⟨⟨hBb, .slice (some ⟨g5, 0, none⟩) (L.length + 1) cap, ?_, ?_, ?_⟩, hb5.out.setCell (p := ⟨b, 0, none⟩) hBb _⟩
      · have s1 := heap_setCell_same w5 b 0 _ _ (.slice (some ⟨g5, 0, none⟩) (L.length + 1) cap) hbk5
        rw [s1]
        simp
      · rw [snoc8s, List.length_append]
        exact own_block10 ho5 (fun g hg => by
          have : g5 = g := by simpa [Value.ownBlock] using hg
          exact Below.heap_setCell _ _ _ _ (by simp only; omega))
      · intro e
        have : g5 = b := by simpa [Value.ownBlock] using e
        exact hg5b this)
    refine hK.out _ _ trivial (fun _ => ?_)
    clear hK K hA5 hg5 ho5 hor hbk5 hrw7 hbB7
    try simp only [List.getElem_toArray, List.getElem_cons_succ, List.getElem_cons_zero, Act.put, List.setIfInBounds_toArray, List.set_cons_zero, List.set_cons_succ]
    refine wpAnyH_take (i := 9) (v := ?vr6_9) rfl (by kernel_rfl) (by kernel_rfl) (by kernel_rfl) (fun _ _ _ h => h) (Or.inl ⟨rfl, ?yr6_9⟩) trivial ?_
    case yr6_9 => (intro w hSw; go_simp; first | done | with_reducible rfl)
    try simp only [List.getElem_toArray, List.getElem_cons_succ, List.getElem_cons_zero, Act.put, List.setIfInBounds_toArray, List.set_cons_zero, List.set_cons_succ]
    refine wpAnyH_take (i := 10) (v := ?vr7_10) rfl (by kernel_rfl) (by kernel_rfl) (by kernel_rfl) (fun _ _ _ h => h) (Or.inl ⟨rfl, ?yr7_10⟩) trivial ?_
    case yr7_10 => (intro w hSw; go_simp; first | done | with_reducible rfl)
    try simp only [List.getElem_toArray, List.getElem_cons_succ, List.getElem_cons_zero, Act.put, List.setIfInBounds_toArray, List.set_cons_zero, List.set_cons_succ]
    refine wpAnyH_ready (rs := [11]) (by kernel_rfl) (by simp) ?_
    refine AllReadyH.cons rfl (fun K hK => ?_) AllReadyH.nil
    go_simp
    refine hK.out _ _ trivial (fun _ => ?_)
    clear hK K
    try simp only [List.getElem_toArray, List.getElem_cons_succ, List.getElem_cons_zero, Act.put, List.setIfInBounds_toArray, List.set_cons_zero, List.set_cons_succ]
    refine wpAnyH_done (by kernel_rfl) ?_ _
    go_wp2
    go_end0
    exact ⟨rfl, hfin.out.1, hfin.out.2⟩
  · go_simp
    refine (hJn.out _ hcd.out hpd).mono ?_
    rintro e w7 ⟨rfl, hb7⟩
    go_wp2_with fail
    refine hK.out _ _ trivial (fun _ => ?_)
    clear hK K
    try simp only [List.getElem_toArray, List.getElem_cons_succ, List.getElem_cons_zero, Act.put, List.setIfInBounds_toArray, List.set_cons_zero, List.set_cons_succ]
    have c7 := cell_step c0 hb7
    have hbk7 := (hb7.block _ hbl).trans hbkd
    have hrw7 := Lib.hid (own_keep10 hownd hb7)
    have hbl7 := own_lt hbk7
    have hbB7 := Lib.hid (below_step10 hbB hb7 hBd)
    have hB7 := Nat.le_trans hBd hb7.size
    clear hb7 hownd hbkd hbB
    refine wpAnyH_ready (rs := [4, 7]) (by kernel_rfl) (by simp) ?_
    refine AllReadyH.cons rfl (fun K hK => ?_) (AllReadyH.cons rfl (fun K hK => ?_) AllReadyH.nil)
    · go_simp
      refine hK.out _ _ trivial (fun _ => ?_)
      clear hK K
      try simp only [List.getElem_toArray, List.getElem_cons_succ, List.getElem_cons_zero, Act.put, List.setIfInBounds_toArray, List.set_cons_zero, List.set_cons_succ]
      refine wpAnyH_ready (rs := [7]) (by kernel_rfl) (by simp) ?_
      refine AllReadyH.cons rfl (fun K hK => ?_) AllReadyH.nil
      go_simp
      refine hK.out _ _ trivial (fun _ => ?_)
      clear hK K
      try simp only [List.getElem_toArray, List.getElem_cons_succ, List.getElem_cons_zero, Act.put, List.setIfInBounds_toArray, List.set_cons_zero, List.set_cons_succ]
      refine wpAnyH_ready (rs := [8]) (by kernel_rfl) (by simp) ?_
      refine AllReadyH.cons rfl (fun K hK => ?_) AllReadyH.nil
      refine step_append_lies _ rfl (.tmp 8) (.tmp 11) 25 rfl B 9 i0 _ 1 16 Try.underlying25 hi hz0 hz1 hz2 rfl (by decide) (.slice A5 L.length c5) L.length (L.flatMap strC) rfl (hrw7.out.alloc _) ⟨w7.heap.size, 0, none⟩ 1 1 [.string J] rfl rfl (news8 _ _ _) (one8s _) (by decide) (by unfold maxLen; omega) (by omega) (by simp; omega) _ rfl (fun g5 cap w5 ho5 hg5 hor hlt5 => ?_)
      have hA5 : ∀ k2, (Value.slice A5 L.length c5).ownBlock = some k2 → B ≤ k2 := fun k2 hk2 => owns_ge8 hrw7.out hk2
      have hb5 : Hid (Below B w w5) := Lib.hid (Below.grown (hbB7.out.alloc (by omega) _) hg5 (by simp; omega) hA5)
      have hbk5 : w5.heap[b]? = some (.cells ((.slice A5 L.length c5) :: rest).toArray T) := (hg5.block b (by simp; omega) (fun e => hne e.symm)).trans ((Lib.alloc_old w7 _ b hbl7).trans hbk7)
      have hg5b : g5 ≠ b := by
        rcases hor with h1 | h1
        · intro e; rw [h1, e] at hne; exact hne rfl
        · simp at h1; omega
      have c5' := own_cell hbk5 (o := 0) (u := .slice A5 L.length c5) (by simp)
      have f5 := own_frozen hbk5 0
      have hbl5 := own_lt hbk5
      have hfin : Hid (Typed B b T rest (L ++ [J]) (w5.setCell ⟨b, 0, none⟩ (.slice (some ⟨g5, 0, none⟩) (L.length + 1) cap)) ∧ Below B w (w5.setCell ⟨b, 0, none⟩ (.slice (some ⟨g5, 0, none⟩) (L.length + 1) cap))) := Lib.hid (by
        refine ⟨⟨hBb, .slice (some ⟨g5, 0, none⟩) (L.length + 1) cap, ?_, ?_, ?_⟩, hb5.out.setCell (p := ⟨b, 0, none⟩) hBb _⟩
        · have s1 := heap_setCell_same w5 b 0 _ _ (.slice (some ⟨g5, 0, none⟩) (L.length + 1) cap) hbk5
          rw [s1]
          simp
        · rw [snoc8s, List.length_append]
          exact own_block10 ho5 (fun g hg => by
            have : g5 = g := by simpa [Value.ownBlock] using hg
            exact Below.heap_setCell _ _ _ _ (by simp only; omega))
        · intro e
          have : g5 = b := by simpa [Value.ownBlock] using e
          exact hg5b this)
      refine hK.out _ _ trivial (fun _ => ?_)
      clear hK K hA5 hg5 ho5 hor hbk5 hrw7 hbB7
      try simp only [List.getElem_toArray, List.getElem_cons_succ, List.getElem_cons_zero, Act.put, List.setIfInBounds_toArray, List.set_cons_zero, List.set_cons_succ]
      refine wpAnyH_take (i := 9) (v := ?vr8_9) rfl (by kernel_rfl) (by kernel_rfl) (by kernel_rfl) (fun _ _ _ h => h) (Or.inl ⟨rfl, ?yr8_9⟩) trivial ?_
      case yr8_9 => (intro w hSw; go_simp; first | done | with_reducible rfl)
      try simp only [List.getElem_toArray, List.getElem_cons_succ, List.getElem_cons_zero, Act.put, List.setIfInBounds_toArray, List.set_cons_zero, List.set_cons_succ]
      refine wpAnyH_take (i := 10) (v := ?vr9_10) rfl (by kernel_rfl) (by kernel_rfl) (by kernel_rfl) (fun _ _ _ h => h) (Or.inl ⟨rfl, ?yr9_10⟩) trivial ?_
      case yr9_10 => (intro w hSw; go_simp; first | done | with_reducible rfl)
      try simp only [List.getElem_toArray, List.getElem_cons_succ, List.getElem_cons_zero, Act.put, List.setIfInBounds_toArray, List.set_cons_zero, List.set_cons_succ]
      refine wpAnyH_ready (rs := [11]) (by kernel_rfl) (by simp) ?_
      refine AllReadyH.cons rfl (fun K hK => ?_) AllReadyH.nil
      go_simp
      refine hK.out _ _ trivial (fun _ => ?_)
      clear hK K
      try simp only [List.getElem_toArray, List.getElem_cons_succ, List.getElem_cons_zero, Act.put, List.setIfInBounds_toArray, List.set_cons_zero, List.set_cons_succ]
      refine wpAnyH_done (by kernel_rfl) ?_ _
      go_wp2
      go_end0
      exact ⟨rfl, hfin.out.1, hfin.out.2⟩
    · go_simp
      refine hK.out _ _ trivial (fun _ => ?_)
      clear hK K
      try simp only [List.getElem_toArray, List.getElem_cons_succ, List.getElem_cons_zero, Act.put, List.setIfInBounds_toArray, List.set_cons_zero, List.set_cons_succ]
      have c7a := cell_on c7 (.cells #[.string J] 9)
      refine wpAnyH_ready (rs := [4]) (by kernel_rfl) (by simp) ?_
      refine AllReadyH.cons rfl (fun K hK => ?_) AllReadyH.nil
      go_simp
      refine hK.out _ _ trivial (fun _ => ?_)
      clear hK K
      try simp only [List.getElem_toArray, List.getElem_cons_succ, List.getElem_cons_zero, Act.put, List.setIfInBounds_toArray, List.set_cons_zero, List.set_cons_succ]
      refine wpAnyH_ready (rs := [8]) (by kernel_rfl) (by simp) ?_
      refine AllReadyH.cons rfl (fun K hK => ?_) AllReadyH.nil
      refine step_append_lies _ rfl (.tmp 8) (.tmp 11) 25 rfl B 9 i0 _ 1 16 Try.underlying25 hi hz0 hz1 hz2 rfl (by decide) (.slice A5 L.length c5) L.length (L.flatMap strC) rfl (hrw7.out.alloc _) ⟨w7.heap.size, 0, none⟩ 1 1 [.string J] rfl rfl (news8 _ _ _) (one8s _) (by decide) (by unfold maxLen; omega) (by omega) (by simp; omega) _ rfl (fun g5 cap w5 ho5 hg5 hor hlt5 => ?_)
      have hA5 : ∀ k2, (Value.slice A5 L.length c5).ownBlock = some k2 → B ≤ k2 := fun k2 hk2 => owns_ge8 hrw7.out hk2
      have hb5 : Hid (Below B w w5) := Lib.hid (Below.grown (hbB7.out.alloc (by omega) _) hg5 (by simp; omega) hA5)
      have hbk5 : w5.heap[b]? = some (.cells ((.slice A5 L.length c5) :: rest).toArray T) := (hg5.block b (by simp; omega) (fun e => hne e.symm)).trans ((Lib.alloc_old w7 _ b hbl7).trans hbk7)
      have hg5b : g5 ≠ b := by
        rcases hor with h1 | h1
        · intro e; rw [h1, e] at hne; exact hne rfl
        · simp at h1; omega
      have c5' := own_cell hbk5 (o := 0) (u := .slice A5 L.length c5) (by simp)
      have f5 := own_frozen hbk5 0
      have hbl5 := own_lt hbk5
      have hfin : Hid (Typed B b T rest (L ++ [J]) (w5.setCell ⟨b, 0, none⟩ (.slice (some ⟨g5, 0, none⟩) (L.length + 1) cap)) ∧ Below B w (w5.setCell ⟨b, 0, none⟩ (.slice (some ⟨g5, 0, none⟩) (L.length + 1) cap))) := Lib.hid (by
        refine ⟨⟨hBb, .slice (some ⟨g5, 0, none⟩) (L.length + 1) cap, ?_, ?_, ?_⟩, hb5.out.setCell (p := ⟨b, 0, none⟩) hBb _⟩
        · have s1 := heap_setCell_same w5 b 0 _ _ (.slice (some ⟨g5, 0, none⟩) (L.length + 1) cap) hbk5
          rw [s1]
          simp
        · rw [snoc8s, List.length_append]
          exact own_block10 ho5 (fun g hg => by
            have : g5 = g := by simpa [Value.ownBlock] using hg
            exact Below.heap_setCell _ _ _ _ (by simp only; omega))
        · intro e
          have : g5 = b := by simpa [Value.ownBlock] using e
          exact hg5b this)
      refine hK.out _ _ trivial (fun _ => ?_)
      clear hK K hA5 hg5 ho5 hor hbk5 hrw7 hbB7
      try simp only [List.getElem_toArray, List.getElem_cons_succ, List.getElem_cons_zero, Act.put, List.setIfInBounds_toArray, List.set_cons_zero, List.set_cons_succ]
      refine wpAnyH_take (i := 9) (v := ?vr10_9) rfl (by kernel_rfl) (by kernel_rfl) (by kernel_rfl) (fun _ _ _ h => h) (Or.inl ⟨rfl, ?yr10_9⟩) trivial ?_
      case yr10_9 => (intro w hSw; go_simp; first | done | with_reducible rfl)
      try simp only [List.getElem_toArray, List.getElem_cons_succ, List.getElem_cons_zero, Act.put, List.setIfInBounds_toArray, List.set_cons_zero, List.set_cons_succ]
      refine wpAnyH_take (i := 10) (v := ?vr11_10) rfl (by kernel_rfl) (by kernel_rfl) (by kernel_rfl) (fun _ _ _ h => h) (Or.inl ⟨rfl, ?yr11_10⟩) trivial ?_
      case yr11_10 => (intro w hSw; go_simp; first | done | with_reducible rfl)
      try simp only [List.getElem_toArray, List.getElem_cons_succ, List.getElem_cons_zero, Act.put, List.setIfInBounds_toArray, List.set_cons_zero, List.set_cons_succ]
      refine wpAnyH_ready (rs := [11]) (by kernel_rfl) (by simp) ?_
      refine AllReadyH.cons rfl (fun K hK => ?_) AllReadyH.nil
      go_simp
      refine hK.out _ _ trivial (fun _ => ?_)
      clear hK K
      try simp only [List.getElem_toArray, List.getElem_cons_succ, List.getElem_cons_zero, Act.put, List.setIfInBounds_toArray, List.set_cons_zero, List.set_cons_succ]
      refine wpAnyH_done (by kernel_rfl) ?_ _
      go_wp2
      go_end0
      exact ⟨rfl, hfin.out.1, hfin.out.2⟩
end Go.Proofs.Ytalmpiffjghhkaa
