/- Racks of stops: the program sets and clears a stop. -/
import Derived.Test.YtlmjoekiflnjgaaTab3
import Derived.Test.YtlmjoekiflnjgaaCat8
namespace Go.Proofs.Ytlmjoekiflnjgaa
open Go.RowKit Go.ChangeShapes Go.WideShapes Go.Deep
set_option linter.unusedVariables false
set_option linter.unusedSimpArgs false

def IOutC (r : List Int × Int) (w : World) (e : Ending) (w' : World) : Prop :=
  ∃ A n c, e = .returned (.tuple #[.slice A n c, .int .i64 r.2]) ∧ n ≤ 1048576 ∧ n ≤ c ∧ OInts w' w.heap.size A n r.1 ∧ Below w.heap.size w w'
theorem IOutC.bad {r : List Int × Int} {w w' : World} {code : Int} (hr : r = ([], code)) (hb : Below w.heap.size w w') : IOutC r w (.returned (.tuple #[.slice none 0 0, .int .i64 code])) w' := by
  subst hr
  exact ⟨none, 0, 0, rfl, by omega, Nat.le_refl _, ORow.nil_, hb⟩
theorem IOutC.iout {r : List Int × Int} {w w' : World} {e : Ending} (h : IOutC r w e w') : IOut r w e w' := by
  obtain ⟨A, n, c, h1, h2, _, h4, h5⟩ := h
  exact ⟨A, n, c, h1, h2, h4, h5⟩
/-- A part of a row. -/
theorem part8 {w : World} {A : Option Addr} {n : Nat} {ps : List Int} (h : Ints w A n ps) (l k c : Nat) (h0 : l ≤ k) (h1 : k ≤ n) (hc : l < k → c ≠ l) :
    Ints w (if c = l then A else A.map (·.add (l * 1))) (k - l) ((ps.take k).drop l) := by
  refine ⟨by simp [h.1]; omega, fun hp => ?_⟩
  obtain ⟨b, off, rfl, hb, hcell⟩ := h.2 (by omega)
  rw [if_neg (hc (by omega))]
  refine ⟨b, off + l, ?_, hb, fun i x hx j u hu => ?_⟩
  · simp only [Option.map_some, Addr.add, Nat.mul_one]
    split
    · rename_i hz; simp [hz]
    · rfl
  · rw [List.getElem?_drop, List.getElem?_take] at hx
    split at hx
    · have := hcell (l + i) x hx j u hu
      rw [← this]
      congr 2
      omega
    · cases hx
theorem iss3 {w : World} {A B C : Option Addr} {g a b c a' b' c' : Nat} {xs ys zs : List Int} {T : TypeId} (hr : w.heap[g]? = some (.cells #[.slice A a a', .slice B b b', .slice C c c'] T))
    (h1 : Ints w A a xs) (h2 : Ints w B b ys) (h3 : Ints w C c zs) (ha : a ≤ 1000) (hb : b ≤ 1000) (hc : c ≤ 1000) : IntSS w (some ⟨g, 0, none⟩) 3 [xs, ys, zs] := by
  have hlt : g < w.heap.size := (Array.getElem?_eq_some_iff.1 hr).1
  refine ⟨[⟨A, a, a'⟩, ⟨B, b, b'⟩, ⟨C, c, c'⟩], ⟨rfl, fun _ => ⟨g, 0, rfl, hlt, fun i x hx j u hu => ?_⟩⟩, rfl, fun i r xs hr hx => ?_⟩
  · match j, hu with
    | 0, hu =>
      simp only [RowD.cells, List.getElem?_cons_zero, Option.some.injEq] at hu
      subst hu
      match i, hx with
      | 0, hx => cases hx; exact cell_of_row w g _ _ T (0, 0) hr
      | 1, hx => cases hx; exact cell_of_row w g _ _ T (0, 0) hr
      | 2, hx => cases hx; exact cell_of_row w g _ _ T (0, 0) hr
      | i + 3, hx => simp at hx
    | j + 1, hu => simp [RowD.cells] at hu
  · match i, hr, hx with
    | 0, hr, hx => cases hr; cases hx; exact ⟨h1, Nat.le_trans ha (by unfold maxLen; omega)⟩
    | 1, hr, hx => cases hr; cases hx; exact ⟨h2, Nat.le_trans hb (by unfold maxLen; omega)⟩
    | 2, hr, hx => cases hr; cases hx; exact ⟨h3, Nat.le_trans hc (by unfold maxLen; omega)⟩
    | i + 3, hr, hx => simp at hr
theorem iss2 {w : World} {A B : Option Addr} {g a b a' b' : Nat} {xs ys : List Int} {T : TypeId} (hr : w.heap[g]? = some (.cells #[.slice A a a', .slice B b b'] T))
    (h1 : Ints w A a xs) (h2 : Ints w B b ys) (ha : a ≤ 1000) (hb : b ≤ 1000) : IntSS w (some ⟨g, 0, none⟩) 2 [xs, ys] := by
  have hlt : g < w.heap.size := (Array.getElem?_eq_some_iff.1 hr).1
  refine ⟨[⟨A, a, a'⟩, ⟨B, b, b'⟩], ⟨rfl, fun _ => ⟨g, 0, rfl, hlt, fun i x hx j u hu => ?_⟩⟩, rfl, fun i r xs hr hx => ?_⟩
  · match j, hu with
    | 0, hu =>
      simp only [RowD.cells, List.getElem?_cons_zero, Option.some.injEq] at hu
      subst hu
      match i, hx with
      | 0, hx => cases hx; exact cell_of_row w g _ _ T (0, 0) hr
      | 1, hx => cases hx; exact cell_of_row w g _ _ T (0, 0) hr
      | i + 2, hx => simp at hx
    | j + 1, hu => simp [RowD.cells] at hu
  · match i, hr, hx with
    | 0, hr, hx => cases hr; cases hx; exact ⟨h1, Nat.le_trans ha (by unfold maxLen; omega)⟩
    | 1, hr, hx => cases hr; cases hx; exact ⟨h2, Nat.le_trans hb (by unfold maxLen; omega)⟩
    | i + 2, hr, hx => simp at hr

set_option maxRecDepth 100000 in
set_option maxHeartbeats 3200000 in
theorem set8_implC (A : Option Addr) (n c : Nat) (ps : List Int) (m : Int) (w : World) (h : Ints w A n ps) (hn : n ≤ 1048576) (hc : n ≤ c) :
    Calls Try.prog 6 #[.slice A n c, .int .i64 m] w (IOutC (setR ps m) w) := by
  generalize hr : setR ps m = r
  replace hr := Lib.hid hr.symm
  have hl := Lib.hid h.1
  have hcases := rackCode_cases ps m
  have hcd := Lib.hid (fun (q : Int) (hq : rackCode ps m = q) (v : Bool) (hv : ps.contains m = v) => find8 A n c ps m w h hn hq hv)
  rcases hcases with h0 | h0 | h0
  · obtain ⟨hok, hcol⟩ := rackCode_ok h0
    obtain ⟨h12, hris⟩ := rackB_len hok
    rw [hl.out] at h12
    have hlow := lowI8_le m ps
    rw [hl.out] at hlow
    cases h4 : ps.contains m with
    | true =>
      have hbad : Hid (r = ([], 4)) := Lib.hid (by rw [hr.out]; simp only [setR, h0, h4, if_true])
      have hc1 := Lib.hid (hcd.out _ h0 _ h4)
      clear h0 hr hcd hok hcol hris h4 hlow
      go_enter Try.func6, Try.ntmps6
      go_wp2_with fail
      refine hc1.out.mono ?_
      rintro e w1 ⟨rfl, hb1⟩
      go_wp2
      go_ret2
      exact IOutC.bad hbad.out hb1
    | false =>
      have hc1 := Lib.hid (hcd.out _ h0 _ h4)
      by_cases hfull : n = 12
      · have hbad : Hid (r = ([], 5)) := Lib.hid (by rw [hr.out]; simp only [setR, h0, h4, if_true]; rw [if_neg (by decide), if_pos (by rw [hl.out]; omega)])
        have hd : ((n : Int) == 12) = true := beq_iff_eq.2 (by omega)
        have hd2 : (n == 12) = true := beq_iff_eq.2 (by omega)
        replace hfull := Lib.hid hfull
        clear h0 hr hcd hok hcol hris h4 hlow
        go_enter Try.func6, Try.ntmps6
        go_wp2_with fail
        refine hc1.out.mono ?_
        rintro e w1 ⟨rfl, hb1⟩
        go_wp2
        go_ret2
        exact IOutC.bad hbad.out hb1
      · have hgood : Hid (r = (ps.take (lowI8 m ps) ++ [m] ++ ps.drop (lowI8 m ps), 0)) := Lib.hid (by rw [hr.out]; simp only [setR, h0, h4, if_true]; rw [if_neg (by decide), if_neg (by rw [hl.out]; omega), put8_low hris h4])
        have hcode : Hid (r.2 = 0) := Lib.hid (by rw [hgood.out])
        have hd : ((n : Int) == 12) = false := beq_eq_false_iff_ne.2 (by omega)
        have hd2 : (n == 12) = false := beq_eq_false_iff_ne.2 (by omega)
        replace hfull := Lib.hid hfull
        clear h0 hr hcd hok hcol hris h4
        generalize lowI8 m ps = a at *
        have ha0 : (0 : Int) ≤ (a : Int) := by omega
        have ha1 : (a : Int) ≤ (n : Int) := by omega
        have hac : a ≤ c := by omega
        have hac' : (a : Int) ≤ (c : Int) := by omega
        go_enter Try.func6, Try.ntmps6
        go_wp2_with fail
        refine hc1.out.mono ?_
        rintro e w1 ⟨rfl, hb1⟩
        have hS := h.below hb1
        replace hb1 := Lib.hid hb1
        clear hc1 h
        go_wp2_with fail
        refine wp_region_held_drew (S := fun w' => Below w1.heap.size w1 w') (by kernel_rfl) ?_ (fun hHeld => ?_)
        · exact (Below.refl _ _).drew
        refine wpAnyH_take (i := 0) (v := ?vs0) rfl (by kernel_rfl) (by kernel_rfl) (by kernel_rfl) (fun _ _ _ h => h) (Or.inl ⟨rfl, ?ys0⟩) (by assumption) ?_
        case ys0 => (intro w hSw; (try dsimp only at hSw); go_simp; first | done | with_reducible rfl)
        simp only [List.getElem_toArray, List.getElem_cons_succ, List.getElem_cons_zero, Act.put, List.setIfInBounds_toArray, List.set_cons_zero, List.set_cons_succ]
        refine wpAnyH_take (i := 1) (v := ?vs1) rfl (by kernel_rfl) (by kernel_rfl) (by kernel_rfl) (fun _ _ _ h => h) (Or.inl ⟨rfl, ?ys1⟩) (by assumption) ?_
        case ys1 => (intro w hSw; (try dsimp only at hSw); go_simp; first | done | with_reducible rfl)
        simp only [List.getElem_toArray, List.getElem_cons_succ, List.getElem_cons_zero, Act.put, List.setIfInBounds_toArray, List.set_cons_zero, List.set_cons_succ]
        refine wpAnyH_take (i := 2) (v := ?vs2) rfl (by kernel_rfl) (by kernel_rfl) (by kernel_rfl) (fun _ _ _ h => h) (Or.inl ⟨rfl, ?ys2⟩) (by assumption) ?_
        case ys2 => (intro w hSw; (try dsimp only at hSw); go_simp; first | done | with_reducible rfl)
        simp only [List.getElem_toArray, List.getElem_cons_succ, List.getElem_cons_zero, Act.put, List.setIfInBounds_toArray, List.set_cons_zero, List.set_cons_succ]
        refine wpAnyH_take (i := 3) (v := ?vs3) rfl (by kernel_rfl) (by kernel_rfl) (by kernel_rfl) (fun _ _ _ h => h) (Or.inl ⟨rfl, ?ys3⟩) (by assumption) ?_
        case ys3 => (intro w hSw; (try dsimp only at hSw); go_simp; first | done | with_reducible rfl)
        simp only [List.getElem_toArray, List.getElem_cons_succ, List.getElem_cons_zero, Act.put, List.setIfInBounds_toArray, List.set_cons_zero, List.set_cons_succ]
        refine wpAnyH_take (i := 5) (v := ?vs5) rfl (by kernel_rfl) (by kernel_rfl) (by kernel_rfl) (fun _ _ _ h => h) (Or.inl ⟨rfl, ?ys5⟩) (by assumption) ?_
        case ys5 => (intro w hSw; (try dsimp only at hSw); go_simp; first | done | with_reducible rfl)
        simp only [List.getElem_toArray, List.getElem_cons_succ, List.getElem_cons_zero, Act.put, List.setIfInBounds_toArray, List.set_cons_zero, List.set_cons_succ]
        refine wpAnyH_take (i := 6) (v := ?vs6) rfl (by kernel_rfl) (by kernel_rfl) (by kernel_rfl) (fun _ _ _ h => h) (Or.inl ⟨rfl, ?ys6⟩) (by assumption) ?_
        case ys6 => (intro w hSw; (try dsimp only at hSw); go_simp; first | done | with_reducible rfl)
        simp only [List.getElem_toArray, List.getElem_cons_succ, List.getElem_cons_zero, Act.put, List.setIfInBounds_toArray, List.set_cons_zero, List.set_cons_succ]
        refine wpAnyH_take (i := 7) (v := ?vs7) rfl (by kernel_rfl) (by kernel_rfl) (by kernel_rfl) (fun _ _ _ h => h) (Or.inl ⟨rfl, ?ys7⟩) (by assumption) ?_
        case ys7 => (intro w hSw; (try dsimp only at hSw); go_simp; first | done | with_reducible rfl)
        simp only [List.getElem_toArray, List.getElem_cons_succ, List.getElem_cons_zero, Act.put, List.setIfInBounds_toArray, List.set_cons_zero, List.set_cons_succ]
        have hI3 : Ints w1 (if c = a then A else Option.map (fun x => x.add a) A) (n - a) (ps.drop a) := by
          have := part8 hS a n c hlow (Nat.le_refl _) (fun h => by omega)
          rw [List.take_of_length_le (by rw [hl.out]; omega)] at this
          simpa using this
        generalize (if c = a then A else Option.map (fun x => x.add a) A) = A3 at *
        refine wpAnyH_ready (rs := [4]) (by kernel_rfl) (by simp) ?_
        refine AllReadyH.cons rfl (fun K hK => ?_) AllReadyH.nil
        go_simp
        refine hK.out _ _ ?_ (fun hHeld => ?_)
        · exact hHeld.alloc (hHeld.size) _
        clear hK K
        try simp only [List.getElem_toArray, List.getElem_cons_succ, List.getElem_cons_zero, Act.put, List.setIfInBounds_toArray, List.set_cons_zero, List.set_cons_succ]
        have hB2 : Below w1.heap.size w1 ((w1.alloc (.cells #[.int .i64 m] 2)).alloc (.cells #[.slice A a c, .slice (some ⟨w1.heap.size, 0, none⟩) 1 1, .slice (A3) (n - a) (c - a)] 24)).drew := (below_a2 w1 _ _).drew
        have hrow2 : ((w1.alloc (.cells #[.int .i64 m] 2)).alloc (.cells #[.slice A a c, .slice (some ⟨w1.heap.size, 0, none⟩) 1 1, .slice (A3) (n - a) (c - a)] 24)).drew.heap[w1.heap.size + 1]? = some (.cells #[.slice A a c, .slice (some ⟨w1.heap.size, 0, none⟩) 1 1, .slice (A3) (n - a) (c - a)] 24) := by
          have := heap_alloc_new (w1.alloc (.cells #[.int .i64 m] 2)) (.cells #[.slice A a c, .slice (some ⟨w1.heap.size, 0, none⟩) 1 1, .slice (A3) (n - a) (c - a)] 24)
          simpa [World.drew] using this
        have hI1 : Ints w1 A a (ps.take a) := hS.take hlow
        have hI2 : Ints ((w1.alloc (.cells #[.int .i64 m] 2)).alloc (.cells #[.slice A a c, .slice (some ⟨w1.heap.size, 0, none⟩) 1 1, .slice (A3) (n - a) (c - a)] 24)).drew (some ⟨w1.heap.size, 0, none⟩) 1 [m] :=
          ⟨rfl, fun _ => ⟨w1.heap.size, 0, rfl, by simp [World.drew] <;> omega, fun i x hx j u hu => by
            match i, hx, j, hu with
            | 0, hx, 0, hu => cases hx; cases hu; exact cell_on (cell_new (w := w1) rfl rfl) _
            | i + 1, hx, _, _ => simp at hx
            | 0, hx, j + 1, hu => simp [intC] at hu⟩⟩
        have hIss := Lib.hid (iss3 hrow2 (hI1.below hB2) hI2 (hI3.below hB2) (by omega) (by omega) (by omega))
        have htot : tot [ps.take a, [m], ps.drop a] ≤ 1000 := by simp [tot, hl.out]; omega
        replace htot := Lib.hid htot
        clear hrow2 hI1 hI2 hI3 hB2
        refine wpAnyH_ready (rs := [8]) (by kernel_rfl) (by simp) ?_
        refine AllReadyH.cons rfl (fun K hK => ?_) AllReadyH.nil
        go_simp
        refine hK.out _ _ ?_ (fun hHeld => ?_)
        · exact hHeld.alloc (by simp) _
        clear hK K
        try simp only [List.getElem_toArray, List.getElem_cons_succ, List.getElem_cons_zero, Act.put, List.setIfInBounds_toArray, List.set_cons_zero, List.set_cons_succ]
        refine wpAnyH_ready (rs := [9]) (by kernel_rfl) (by simp) ?_
        refine AllReadyH.cons rfl (fun K hK => ?_) AllReadyH.nil
        go_simp
        refine (concat8 _ _ _ _ _ hIss.out (by omega) htot.out).mono ?_
        rintro e w9 ⟨A', n', c', rfl, hcap', hO, hbc⟩
        go_wp2_with fail
        refine hK.out _ _ ?_ (fun hHeld => ?_)
        · exact hHeld.step hbc
        clear hK K
        try simp only [List.getElem_toArray, List.getElem_cons_succ, List.getElem_cons_zero, Act.put, List.setIfInBounds_toArray, List.set_cons_zero, List.set_cons_succ]
        refine wpAnyH_take (i := 10) (v := ?vu10) rfl (by kernel_rfl) (by kernel_rfl) (by kernel_rfl) (fun _ _ _ h => h) (Or.inl ⟨rfl, ?yu10⟩) (by assumption) ?_
        case yu10 => (intro w hSw; (try dsimp only at hSw); go_simp; first | done | with_reducible rfl)
        simp only [List.getElem_toArray, List.getElem_cons_succ, List.getElem_cons_zero, Act.put, List.setIfInBounds_toArray, List.set_cons_zero, List.set_cons_succ]
        refine wpAnyH_take (i := 11) (v := ?vu11) rfl (by kernel_rfl) (by kernel_rfl) (by kernel_rfl) (fun _ _ _ h => h) (Or.inl ⟨rfl, ?yu11⟩) (by assumption) ?_
        case yu11 => (intro w hSw; (try dsimp only at hSw); go_simp; first | done | with_reducible rfl)
        simp only [List.getElem_toArray, List.getElem_cons_succ, List.getElem_cons_zero, Act.put, List.setIfInBounds_toArray, List.set_cons_zero, List.set_cons_succ]
        refine wpAnyH_done (by kernel_rfl) ?_ _
        have hn' : n' ≤ 1048576 := by have h1 := hO.1; simp [hl.out] at h1; omega
        have hfin : OInts w9 w.heap.size A' n' r.1 := by
          rw [hgood.out]
          simpa using hO.mono (by have := hb1.out.size; have := hHeld.size; simp [World.drew]; omega)
        have hfin0 := Lib.hid hfin
        clear hO hfin
        go_wp2
        go_ret2
        exact ⟨A', n', c', by rw [hcode.out]; rfl, hn', hcap', hfin0.out, hb1.out.step hHeld⟩
  · have hbad : Hid (r = ([], 1)) := Lib.hid (by rw [hr.out]; simp [setR, h0])
    have hc1 := Lib.hid (hcd.out _ h0 _ rfl)
    clear h0 hr hcd h
    go_enter Try.func6, Try.ntmps6
    go_wp2_with fail
    refine hc1.out.mono ?_
    rintro e w1 ⟨rfl, hb1⟩
    go_wp2
    go_ret2
    exact IOutC.bad hbad.out hb1
  · have hbad : Hid (r = ([], 2)) := Lib.hid (by rw [hr.out]; simp [setR, h0])
    have hc1 := Lib.hid (hcd.out _ h0 _ rfl)
    clear h0 hr hcd h
    go_enter Try.func6, Try.ntmps6
    go_wp2_with fail
    refine hc1.out.mono ?_
    rintro e w1 ⟨rfl, hb1⟩
    go_wp2
    go_ret2
    exact IOutC.bad hbad.out hb1

set_option maxRecDepth 100000 in
set_option maxHeartbeats 3200000 in
theorem clear8_implC (A : Option Addr) (n c : Nat) (ps : List Int) (m : Int) (w : World) (h : Ints w A n ps) (hn : n ≤ 1048576) (hc : n ≤ c) :
    Calls Try.prog 9 #[.slice A n c, .int .i64 m] w (IOutC (clearR ps m) w) := by
  generalize hr : clearR ps m = r
  replace hr := Lib.hid hr.symm
  have hl := Lib.hid h.1
  have hcases := rackCode_cases ps m
  have hcd := Lib.hid (fun (q : Int) (hq : rackCode ps m = q) (v : Bool) (hv : ps.contains m = v) => find8 A n c ps m w h hn hq hv)
  rcases hcases with h0 | h0 | h0
  · obtain ⟨hok, hcol⟩ := rackCode_ok h0
    obtain ⟨h12, hris⟩ := rackB_len hok
    rw [hl.out] at h12
    have hlow := lowI8_le m ps
    rw [hl.out] at hlow
    cases h4 : ps.contains m with
    | false =>
      have hbad : Hid (r = ([], 3)) := Lib.hid (by rw [hr.out, clearR, if_pos h0, if_neg (by rw [h4]; decide)])
      have hc1 := Lib.hid (hcd.out _ h0 _ h4)
      clear h0 hr hcd hok hcol hris h4 hlow
      go_enter Try.func9, Try.ntmps9
      go_wp2_with fail
      refine hc1.out.mono ?_
      rintro e w1 ⟨rfl, hb1⟩
      go_wp2
      go_ret2
      exact IOutC.bad hbad.out hb1
    | true =>
      have hc1 := Lib.hid (hcd.out _ h0 _ h4)
      have hgood : Hid (r = (ps.take (lowI8 m ps) ++ ps.drop (lowI8 m ps + 1), 0)) := Lib.hid (by rw [hr.out, clearR, if_pos h0, if_pos h4, clear_low hris h4])
      have hcode : Hid (r.2 = 0) := Lib.hid (by rw [hgood.out])
      have hat : lowI8 m ps < n := by
        have h9 : ps[lowI8 m ps]? = some m := by have := has_low (c := m) hris; rw [h4] at this; simpa using this.symm
        have := (List.getElem?_eq_some_iff.1 h9).1
        rw [hl.out] at this
        exact this
      clear h0 hr hcd hok hcol hris h4
      generalize lowI8 m ps = a at *
      have ha0 : (0 : Int) ≤ (a : Int) := by omega
      have ha1 : (a : Int) ≤ (n : Int) := by omega
      have hac : a ≤ c := by omega
      have hac' : (a : Int) ≤ (c : Int) := by omega
      have ha2 : (a : Int) + 1 ≤ (n : Int) := by omega
      have ha3 : (0 : Int) ≤ (a : Int) + 1 := by omega
      have ha4 : ((a : Int) + 1).toNat = a + 1 := by omega
      have hw1 : IntKind.i64.wrap ((a : Int) + 1) = (a : Int) + 1 := IntWalk.i64_in _ (by omega)
      go_enter Try.func9, Try.ntmps9
      go_wp2_with fail
      refine hc1.out.mono ?_
      rintro e w1 ⟨rfl, hb1⟩
      have hS := h.below hb1
      replace hb1 := Lib.hid hb1
      clear hc1 h
      go_wp2_with fail
      refine wp_region_held_drew (S := fun w' => Below w1.heap.size w1 w') (by kernel_rfl) ?_ (fun hHeld => ?_)
      · exact (Below.refl _ _).drew
      refine wpAnyH_take (i := 0) (v := ?vs0) rfl (by kernel_rfl) (by kernel_rfl) (by kernel_rfl) (fun _ _ _ h => h) (Or.inl ⟨rfl, ?ys0⟩) (by assumption) ?_
      case ys0 => (intro w hSw; (try dsimp only at hSw); go_simp; first | done | with_reducible rfl)
      simp only [List.getElem_toArray, List.getElem_cons_succ, List.getElem_cons_zero, Act.put, List.setIfInBounds_toArray, List.set_cons_zero, List.set_cons_succ]
      refine wpAnyH_take (i := 1) (v := ?vs1) rfl (by kernel_rfl) (by kernel_rfl) (by kernel_rfl) (fun _ _ _ h => h) (Or.inl ⟨rfl, ?ys1⟩) (by assumption) ?_
      case ys1 => (intro w hSw; (try dsimp only at hSw); go_simp; first | done | with_reducible rfl)
      simp only [List.getElem_toArray, List.getElem_cons_succ, List.getElem_cons_zero, Act.put, List.setIfInBounds_toArray, List.set_cons_zero, List.set_cons_succ]
      refine wpAnyH_take (i := 2) (v := ?vs2) rfl (by kernel_rfl) (by kernel_rfl) (by kernel_rfl) (fun _ _ _ h => h) (Or.inl ⟨rfl, ?ys2⟩) (by assumption) ?_
      case ys2 => (intro w hSw; (try dsimp only at hSw); go_simp; first | done | with_reducible rfl)
      simp only [List.getElem_toArray, List.getElem_cons_succ, List.getElem_cons_zero, Act.put, List.setIfInBounds_toArray, List.set_cons_zero, List.set_cons_succ]
      refine wpAnyH_take (i := 3) (v := ?vs3) rfl (by kernel_rfl) (by kernel_rfl) (by kernel_rfl) (fun _ _ _ h => h) (Or.inl ⟨rfl, ?ys3⟩) (by assumption) ?_
      case ys3 => (intro w hSw; (try dsimp only at hSw); go_simp; first | done | with_reducible rfl)
      simp only [List.getElem_toArray, List.getElem_cons_succ, List.getElem_cons_zero, Act.put, List.setIfInBounds_toArray, List.set_cons_zero, List.set_cons_succ]
      refine wpAnyH_take (i := 4) (v := ?vs4) rfl (by kernel_rfl) (by kernel_rfl) (by kernel_rfl) (fun _ _ _ h => h) (Or.inl ⟨rfl, ?ys4⟩) (by assumption) ?_
      case ys4 => (intro w hSw; (try dsimp only at hSw); go_simp; first | done | with_reducible rfl)
      simp only [List.getElem_toArray, List.getElem_cons_succ, List.getElem_cons_zero, Act.put, List.setIfInBounds_toArray, List.set_cons_zero, List.set_cons_succ]
      refine wpAnyH_take (i := 5) (v := ?vs5) rfl (by kernel_rfl) (by kernel_rfl) (by kernel_rfl) (fun _ _ _ h => h) (Or.inl ⟨rfl, ?ys5⟩) (by assumption) ?_
      case ys5 => (intro w hSw; (try dsimp only at hSw); go_simp; first | done | with_reducible rfl)
      simp only [List.getElem_toArray, List.getElem_cons_succ, List.getElem_cons_zero, Act.put, List.setIfInBounds_toArray, List.set_cons_zero, List.set_cons_succ]
      refine wpAnyH_take (i := 6) (v := ?vs6) rfl (by kernel_rfl) (by kernel_rfl) (by kernel_rfl) (fun _ _ _ h => h) (Or.inl ⟨rfl, ?ys6⟩) (by assumption) ?_
      case ys6 => (intro w hSw; (try dsimp only at hSw); go_simp; first | done | with_reducible rfl)
      simp only [List.getElem_toArray, List.getElem_cons_succ, List.getElem_cons_zero, Act.put, List.setIfInBounds_toArray, List.set_cons_zero, List.set_cons_succ]
      have hI3 : Ints w1 (if c = a + 1 then A else Option.map (fun (x : Addr) => (⟨x.block, x.off + (a + 1), none⟩ : Addr)) A) (n - (a + 1)) (ps.drop (a + 1)) := by
        have := part8 hS (a + 1) n c (by omega) (Nat.le_refl _) (fun h => by omega)
        rw [List.take_of_length_le (by rw [hl.out]; omega)] at this
        simpa [Addr.add] using this
      generalize (if c = a + 1 then A else Option.map (fun (x : Addr) => (⟨x.block, x.off + (a + 1), none⟩ : Addr)) A) = A3 at *
      have hB2 : Below w1.heap.size w1 (w1.alloc (.cells #[.slice A a c, .slice A3 (n - (a + 1)) (c - (a + 1))] 24)).drew := (below_a1 w1 _).drew
      have hrow2 : (w1.alloc (.cells #[.slice A a c, .slice A3 (n - (a + 1)) (c - (a + 1))] 24)).drew.heap[w1.heap.size]? = some (.cells #[.slice A a c, .slice A3 (n - (a + 1)) (c - (a + 1))] 24) := heap_alloc_new w1 (.cells #[.slice A a c, .slice A3 (n - (a + 1)) (c - (a + 1))] 24)
      have hI1 : Ints w1 A a (ps.take a) := hS.take (by omega)
      have hIss := Lib.hid (iss2 hrow2 (hI1.below hB2) (hI3.below hB2) (by omega) (by omega))
      have htot : tot [ps.take a, ps.drop (a + 1)] ≤ 1000 := by simp [tot, hl.out]; omega
      replace htot := Lib.hid htot
      clear hrow2 hI1 hI3 hB2
      refine wpAnyH_ready (rs := [7]) (by kernel_rfl) (by simp) ?_
      refine AllReadyH.cons rfl (fun K hK => ?_) AllReadyH.nil
      go_simp
      refine hK.out _ _ ?_ (fun hHeld => ?_)
      · exact hHeld.alloc (by simp) _
      clear hK K
      try simp only [List.getElem_toArray, List.getElem_cons_succ, List.getElem_cons_zero, Act.put, List.setIfInBounds_toArray, List.set_cons_zero, List.set_cons_succ]
      refine wpAnyH_ready (rs := [8]) (by kernel_rfl) (by simp) ?_
      refine AllReadyH.cons rfl (fun K hK => ?_) AllReadyH.nil
      go_simp
      refine (concat8 _ _ _ _ _ hIss.out (by omega) htot.out).mono ?_
      rintro e w9 ⟨A', n', c', rfl, hcap', hO, hbc⟩
      go_wp2_with fail
      refine hK.out _ _ ?_ (fun hHeld => ?_)
      · exact hHeld.step hbc
      clear hK K
      try simp only [List.getElem_toArray, List.getElem_cons_succ, List.getElem_cons_zero, Act.put, List.setIfInBounds_toArray, List.set_cons_zero, List.set_cons_succ]
      refine wpAnyH_take (i := 9) (v := ?vu9) rfl (by kernel_rfl) (by kernel_rfl) (by kernel_rfl) (fun _ _ _ h => h) (Or.inl ⟨rfl, ?yu9⟩) (by assumption) ?_
      case yu9 => (intro w hSw; (try dsimp only at hSw); go_simp; first | done | with_reducible rfl)
      simp only [List.getElem_toArray, List.getElem_cons_succ, List.getElem_cons_zero, Act.put, List.setIfInBounds_toArray, List.set_cons_zero, List.set_cons_succ]
      refine wpAnyH_take (i := 10) (v := ?vu10) rfl (by kernel_rfl) (by kernel_rfl) (by kernel_rfl) (fun _ _ _ h => h) (Or.inl ⟨rfl, ?yu10⟩) (by assumption) ?_
      case yu10 => (intro w hSw; (try dsimp only at hSw); go_simp; first | done | with_reducible rfl)
      simp only [List.getElem_toArray, List.getElem_cons_succ, List.getElem_cons_zero, Act.put, List.setIfInBounds_toArray, List.set_cons_zero, List.set_cons_succ]
      refine wpAnyH_done (by kernel_rfl) ?_ _
      have hn' : n' ≤ 1048576 := by have h1 := hO.1; simp [hl.out] at h1; omega
      have hfin : OInts w9 w.heap.size A' n' r.1 := by
        rw [hgood.out]
        simpa using hO.mono (by have := hb1.out.size; have := hHeld.size; simp [World.drew]; omega)
      have hfin0 := Lib.hid hfin
      clear hO hfin
      go_wp2
      go_ret2
      exact ⟨A', n', c', by rw [hcode.out]; rfl, hn', hcap', hfin0.out, hb1.out.step hHeld⟩
  · have hbad : Hid (r = ([], 1)) := Lib.hid (by rw [hr.out]; simp [clearR, h0])
    have hc1 := Lib.hid (hcd.out _ h0 _ rfl)
    clear h0 hr hcd h
    go_enter Try.func9, Try.ntmps9
    go_wp2_with fail
    refine hc1.out.mono ?_
    rintro e w1 ⟨rfl, hb1⟩
    go_wp2
    go_ret2
    exact IOutC.bad hbad.out hb1
  · have hbad : Hid (r = ([], 2)) := Lib.hid (by rw [hr.out]; simp [clearR, h0])
    have hc1 := Lib.hid (hcd.out _ h0 _ rfl)
    clear h0 hr hcd h
    go_enter Try.func9, Try.ntmps9
    go_wp2_with fail
    refine hc1.out.mono ?_
    rintro e w1 ⟨rfl, hb1⟩
    go_wp2
    go_ret2
    exact IOutC.bad hbad.out hb1

theorem set8_impl (A : Option Addr) (n c : Nat) (ps : List Int) (m : Int) (w : World) (h : Ints w A n ps) (hn : n ≤ 1048576) (hx : ∀ x ∈ ps, intGood x) (hm : (Lit.int .i64 m).wf = true) :
    Calls Try.prog 6 #[.slice A n n, .int .i64 m] w (IOut (setR ps m) w) := (set8_implC A n n ps m w h hn (Nat.le_refl _)).mono fun _ _ h => h.iout
theorem clear8_impl (A : Option Addr) (n c : Nat) (ps : List Int) (m : Int) (w : World) (h : Ints w A n ps) (hn : n ≤ 1048576) (hx : ∀ x ∈ ps, intGood x) (hm : (Lit.int .i64 m).wf = true) :
    Calls Try.prog 9 #[.slice A n n, .int .i64 m] w (IOut (clearR ps m) w) := (clear8_implC A n n ps m w h hn (Nat.le_refl _)).mono fun _ _ h => h.iout
end Go.Proofs.Ytlmjoekiflnjgaa
