/- Centring: the model's blocks and boxes. -/
import Derived.Test.YtalmpiffjghhkaaCen2
import Derived.Deep.AppendLies
namespace Go.Proofs.Ytalmpiffjghhkaa
open Go.RowKit Go.ChangeShapes Go.WideShapes Go.Deep
set_option linter.unusedVariables false
set_option linter.unusedSimpArgs false

theorem most_ge : ∀ (ls : List ByteArray) (a : Nat), a ≤ ls.foldl (fun m x => max m x.size) a ∧ ∀ x ∈ ls, x.size ≤ ls.foldl (fun m x => max m x.size) a
  | [], a => ⟨Nat.le_refl _, fun x h => absurd h (by simp)⟩
  | y :: ls, a => by
    obtain ⟨h1, h2⟩ := most_ge ls (max a y.size)
    refine ⟨Nat.le_trans (Nat.le_max_left _ _) h1, fun x hx => ?_⟩
    rcases List.mem_cons.1 hx with rfl | hx
    · exact Nat.le_trans (Nat.le_max_right _ _) h1
    · exact h2 x hx
theorem most_le : ∀ (ls : List ByteArray) (a B : Nat), a ≤ B → (∀ x ∈ ls, x.size ≤ B) → ls.foldl (fun m x => max m x.size) a ≤ B
  | [], a, B, h, _ => h
  | y :: ls, a, B, h, hx => most_le ls _ B (Nat.max_le.2 ⟨h, hx y (by simp)⟩) (fun x h' => hx x (by simp [h']))
theorem linesB_ok {ls : List ByteArray} (h : ¬ linesB ls < 0) : ls.length ≤ 30 ∧ linesB ls = ((mostL ls : Nat) : Int) ∧ mostL ls ≤ 100 ∧ ∀ x ∈ ls, x.size ≤ mostL ls := by
  unfold linesB at h ⊢
  split at h
  · rename_i h1
    rw [if_pos h1]
    split at h
    · exact absurd (by decide) h
    · rename_i h2
      rw [if_neg h2]
      exact ⟨by omega, rfl, most_le _ _ _ (by omega) fun x hx => lineB_size (List.all_eq_true.1 h1 x hx), (most_ge ls 0).2⟩
  · exact absurd (by decide) h
def cbR (ls : List ByteArray) (wd : Int) : List ByteArray × Int :=
  if linesB ls < 0 then ([], 2) else if inR wd 1 100 = true then (if wd < linesB ls then ([], 5) else (ls.map (fun x => repB 32 ((wd - linesB ls).toNat / 2) ++ x), 0)) else ([], 2)
def boL (m : Nat) (x : ByteArray) : ByteArray := ⟨#[124, 32]⟩ ++ x ++ repB 32 (m - x.size) ++ ⟨#[32, 124]⟩
def boE (m : Nat) : ByteArray := ⟨#[43]⟩ ++ repB 45 (m + 2) ++ ⟨#[43]⟩
def boR (ls : List ByteArray) : List ByteArray × Int :=
  if linesB ls < 0 then ([], 2) else if 96 < linesB ls then ([], 5) else (boE (linesB ls).toNat :: ls.map (boL (linesB ls).toNat) ++ [boE (linesB ls).toNat], 0)
theorem snoc_m {g : ByteArray → ByteArray} {ls : List ByteArray} {k : Nat} {x : ByteArray} (h : ls[k]? = some x) : ((ls.take (k + 1)).map g).flatMap strC = ((ls.take k).map g).flatMap strC ++ [.string (g x)] := by rw [take8 h, List.map_append, List.flatMap_append]; rfl
theorem snoc_m2 {g : ByteArray → ByteArray} {E : ByteArray} {ls : List ByteArray} {k : Nat} {x : ByteArray} (h : ls[k]? = some x) : (E :: (ls.take (k + 1)).map g).flatMap strC = (E :: (ls.take k).map g).flatMap strC ++ [.string (g x)] := by rw [List.flatMap_cons, List.flatMap_cons, snoc_m h, List.append_assoc]
theorem owns_one8 {w : World} {base : Nat} (E : ByteArray) (h : base ≤ w.heap.size) : (w.alloc (.cells #[.string E] 9)).ownsRow base 9 1 (.slice (some ⟨w.heap.size, 0, none⟩) 1 1) 1 [.string E] :=
  ⟨rfl, .inr ⟨w.heap.size, 1, #[.string E], rfl, h, heap_alloc_new _ _, Nat.le_refl _, by unfold maxLen; omega, rfl, rfl⟩⟩
set_option maxRecDepth 100000 in
set_option maxHeartbeats 2400000 in
theorem cb10_specC (A : Option Addr) (n c : Nat) (ls : List ByteArray) (wd : Int) (w : World) (h : Strs w A n ls) (hn : n ≤ 1048576) (hg : ∀ x ∈ ls, x.size ≤ maxLen) :
    Calls Try.prog 15 #[.slice A n c, .int .i64 wd] w (TOut (cbR ls wd) w) := by
  have hl := Lib.hid h.1
  generalize hv : cbR ls wd = res
  replace hv := Lib.hid hv
  obtain ⟨q, hq⟩ : ∃ q, linesB ls = q := ⟨_, rfl⟩
  have hc1 := Lib.hid (lines10 A n c ls hq w h hn hg)
  by_cases h0 : q < 0
  · have hres : Hid (res = ([], 2)) := Lib.hid (by rw [← hv.out, cbR, if_pos (by rw [hq]; exact h0)])
    have g0 : decide (q < 0) = true := decide_eq_true h0
    clear hq hv h hg
    go_enter Try.func15, Try.ntmps15
    go_wp2_with fail
    refine hc1.out.mono ?_
    rintro e w1 ⟨rfl, rfl⟩
    go_wp2
    go_ret2
    exact TOut.bad hres.out (Below.refl _ _)
  · have g0 : decide (q < 0) = false := decide_eq_false h0
    cases h1 : inR wd 1 100 with
    | false =>
      have hres : Hid (res = ([], 2)) := Lib.hid (by rw [← hv.out, cbR, if_neg (by rw [hq]; exact h0), h1]; rfl)
      have hc2 := Lib.hid (fun W => in8_spec h1 W)
      clear hq hv h hg h1
      go_enter Try.func15, Try.ntmps15
      go_wp2_with fail
      refine hc1.out.mono ?_
      rintro e w1 ⟨rfl, rfl⟩
      go_wp2_with fail
      refine (hc2.out _).mono ?_
      rintro e w1 ⟨rfl, rfl⟩
      go_wp2
      go_ret2
      exact TOut.bad hres.out (Below.refl _ _)
    | true =>
      have hc2 := Lib.hid (fun W => in8_spec h1 W)
      by_cases h2 : wd < q
      · have hres : Hid (res = ([], 5)) := Lib.hid (by rw [← hv.out, cbR, if_neg (by rw [hq]; exact h0), if_pos h1, if_pos (by rw [hq]; exact h2)])
        clear hq hv h hg h1
        go_enter Try.func15, Try.ntmps15
        go_wp2_with fail
        refine hc1.out.mono ?_
        rintro e w1 ⟨rfl, rfl⟩
        go_wp2_with fail
        refine (hc2.out _).mono ?_
        rintro e w1 ⟨rfl, rfl⟩
        go_wp2
        go_ret2
        exact TOut.bad hres.out (Below.refl _ _)
      · obtain ⟨l30, e1, l100, hxs⟩ := linesB_ok (ls := ls) (by rw [hq]; exact h0)
        rw [hl.out] at l30
        have hres0 : res = (ls.map (fun x => repB 32 ((wd - q).toNat / 2) ++ x), 0) := by rw [← hv.out, cbR, if_neg (by rw [hq]; exact h0), if_pos h1, if_neg (by rw [hq]; exact h2), hq]
        obtain ⟨d1, d2⟩ : 1 ≤ wd ∧ wd ≤ 100 := by simpa [inR] using h1
        rw [hq] at e1
        obtain ⟨M, hM⟩ : ∃ M, mostL ls = M := ⟨_, rfl⟩
        rw [hM] at e1 l100 hxs
        subst e1
        obtain ⟨W, rfl⟩ : ∃ W : Nat, wd = (W : Int) := ⟨wd.toNat, by omega⟩
        obtain ⟨d, hd⟩ : ∃ d, ((W : Int) - (M : Int)).toNat = d := ⟨_, rfl⟩
        rw [hd] at hres0
        have hw1 : IntKind.i64.wrap ((W : Int) - (M : Int)) = (d : Int) := by rw [IntWalk.i64_in _ (by omega)]; omega
        have g7 : decide ((W : Int) < (M : Int)) = false := decide_eq_false h2
        have g8 : decide (W < M) = false := decide_eq_false (by omega)
        have he0 : d / 2 ≤ d := Nat.div_le_self _ _
        have hq2 := quo2 d
        obtain ⟨e, he⟩ : ∃ e, d / 2 = e := ⟨_, rfl⟩
        rw [he] at hq2 hres0 he0
        have hwe : IntKind.i64.wrap (e : Int) = (e : Int) := IntWalk.i64_in _ (by omega)
        have hbl := Lib.hid (fun W' => blanks10 e (by omega) W')
        have hbs := repB_size 32 e
        have hbs2 : (repB 32 e).size ≤ 100 := by omega
        have hres : Hid (res = (ls.map (fun x => repB 32 e ++ x), 0)) := Lib.hid hres0
        have hcode : Hid (res.2 = 0) := Lib.hid (by rw [hres0])
        have hx0 := Lib.hid hxs
        obtain ⟨i0, hi, hz0, hz1, hz2⟩ := info_parts Try.infoStr
        replace he := Lib.hid he
        replace hd := Lib.hid hd
        clear hq hv hg h1 hres0 hM hxs hbs
        generalize repB 32 e = BB at *
        go_enter Try.func15, Try.ntmps15
        go_wp2_with fail
        refine hc1.out.mono ?_
        rintro e w1 ⟨rfl, rfl⟩
        go_wp2_with fail
        refine (hc2.out _).mono ?_
        rintro e w1 ⟨rfl, rfl⟩
        go_wp2
        go_loopw [7, 8] (fun v i wr => ∃ k : Nat, k ≤ n ∧ i = .int .i64 (k : Int) ∧ Below w.heap.size w wr ∧ wr.ownsRow w.heap.size 9 1 v k (((ls.take k).map (fun x => BB ++ x)).flatMap strC)) (fun _ i _ => n - (intOf i).toNat)
        case atStart => exact ⟨0, by omega, rfl, below_a1 _ _, owns_new8 _ _⟩
        case round =>
          rename World => wr
          obtain ⟨k, hk, rfl, hbw, hrow⟩ := hrel
          have hwz := hbw.size
          by_cases hlt : k < n
          · obtain ⟨b, off, x, rfl, hgl, hx, c00⟩ := str_at h hlt
            have c1 := cell_step c00 hbw
            have hxz := hx0.out x (List.mem_of_getElem? hx.out)
            have hcat : ¬ 9223372036854775807 < BB.size + x.size := by omega
            have hsn := Lib.hid (snoc_m (g := fun x => BB ++ x) hx.out)
            have hk0' : (0 : Int) ≤ (k : Int) := Int.natCast_nonneg _
            have hkm : (k : Int) < (n : Int) := by omega
            obtain ⟨A5, c5, rfl⟩ := owns_form8 hrow
            have hrl := Lib.hid hrow
            replace c00 := Lib.hid c00
            clear hrow
            go_wp2_with fail
            refine wp_region_held_drew (S := fun w' => Below w.heap.size w w' ∧ w'.cell? ⟨b, off + k, none⟩ = some (.string x)) (by kernel_rfl) ?_ (fun hHeld => ?_)
            · exact ⟨hbw.drew, c1⟩
            refine wpAnyH_take (i := 0) (v := ?vsU1_0) rfl (by kernel_rfl) (by kernel_rfl) (by kernel_rfl) (fun _ _ _ h => h) (Or.inl ⟨rfl, ?ysU1_0⟩) (by assumption) ?_
            case ysU1_0 => (intro w hSw; (try dsimp only at hSw); go_simp; first | done | with_reducible rfl)
            simp only [List.getElem_toArray, List.getElem_cons_succ, List.getElem_cons_zero, Act.put, List.setIfInBounds_toArray, List.set_cons_zero, List.set_cons_succ]
            refine wpAnyH_take (i := 1) (v := ?vsU1_1) rfl (by kernel_rfl) (by kernel_rfl) (by kernel_rfl) (fun _ _ _ h => h) (Or.inl ⟨rfl, ?ysU1_1⟩) (by assumption) ?_
            case ysU1_1 => (intro w hSw; (try dsimp only at hSw); go_simp; first | done | with_reducible rfl)
            simp only [List.getElem_toArray, List.getElem_cons_succ, List.getElem_cons_zero, Act.put, List.setIfInBounds_toArray, List.set_cons_zero, List.set_cons_succ]
            refine wpAnyH_take (i := 2) (v := ?vsU1_2) rfl (by kernel_rfl) (by kernel_rfl) (by kernel_rfl) (fun _ _ _ h => h) (Or.inl ⟨rfl, ?ysU1_2⟩) (by assumption) ?_
            case ysU1_2 => (intro w hSw; (try dsimp only at hSw); go_simp; first | done | with_reducible rfl)
            simp only [List.getElem_toArray, List.getElem_cons_succ, List.getElem_cons_zero, Act.put, List.setIfInBounds_toArray, List.set_cons_zero, List.set_cons_succ]
            refine wpAnyH_take (i := 3) (v := ?vsU1_3) rfl (by kernel_rfl) (by kernel_rfl) (by kernel_rfl) (fun _ _ _ h => h) (Or.inl ⟨rfl, ?ysU1_3⟩) (by assumption) ?_
            case ysU1_3 => (intro w hSw; (try dsimp only at hSw); go_simp; first | done | with_reducible rfl)
            simp only [List.getElem_toArray, List.getElem_cons_succ, List.getElem_cons_zero, Act.put, List.setIfInBounds_toArray, List.set_cons_zero, List.set_cons_succ]
            refine wpAnyH_take (i := 4) (v := ?vsU1_4) rfl (by kernel_rfl) (by kernel_rfl) (by kernel_rfl) (fun _ _ _ h => h) (Or.inl ⟨rfl, ?ysU1_4⟩) (by assumption) ?_
            case ysU1_4 => (intro w hSw; (try dsimp only at hSw); go_simp; first | done | with_reducible rfl)
            simp only [List.getElem_toArray, List.getElem_cons_succ, List.getElem_cons_zero, Act.put, List.setIfInBounds_toArray, List.set_cons_zero, List.set_cons_succ]
            refine wpAnyH_take (i := 6) (v := ?vsU1_6) rfl (by kernel_rfl) (by kernel_rfl) (by kernel_rfl) (fun _ _ _ h => h) (Or.inl ⟨rfl, ?ysU1_6⟩) (by assumption) ?_
            case ysU1_6 => (intro w hSw; (try dsimp only at hSw); go_simp; first | done | with_reducible rfl)
            simp only [List.getElem_toArray, List.getElem_cons_succ, List.getElem_cons_zero, Act.put, List.setIfInBounds_toArray, List.set_cons_zero, List.set_cons_succ]
            refine wpAnyH_take (i := 7) (v := ?vsU1_7) rfl (by kernel_rfl) (by kernel_rfl) (by kernel_rfl) (fun _ _ _ h => h) (Or.inl ⟨rfl, ?ysU1_7⟩) (by assumption) ?_
            case ysU1_7 => (intro w hSw; (try dsimp only at hSw); go_simp; first | done | with_reducible rfl)
            simp only [List.getElem_toArray, List.getElem_cons_succ, List.getElem_cons_zero, Act.put, List.setIfInBounds_toArray, List.set_cons_zero, List.set_cons_succ]
            refine wpAnyH_take (i := 8) (v := ?vsU1_8) rfl (by kernel_rfl) (by kernel_rfl) (by kernel_rfl) (fun _ _ _ h => h) (Or.inl ⟨rfl, ?ysU1_8⟩) (by assumption) ?_
            case ysU1_8 => (intro w hSw; (try dsimp only at hSw); go_simp; first | done | with_reducible rfl)
            simp only [List.getElem_toArray, List.getElem_cons_succ, List.getElem_cons_zero, Act.put, List.setIfInBounds_toArray, List.set_cons_zero, List.set_cons_succ]
            refine wpAnyH_take (i := 9) (v := ?vsU1_9) rfl (by kernel_rfl) (by kernel_rfl) (by kernel_rfl) (fun _ _ _ h => h) (Or.inl ⟨rfl, ?ysU1_9⟩) (by assumption) ?_
            case ysU1_9 => (intro w hSw; (try dsimp only at hSw); go_simp; first | done | with_reducible rfl)
            simp only [List.getElem_toArray, List.getElem_cons_succ, List.getElem_cons_zero, Act.put, List.setIfInBounds_toArray, List.set_cons_zero, List.set_cons_succ]
            refine wpAnyH_ready (rs := [5]) (by kernel_rfl) (by simp) ?_
            refine AllReadyH.cons rfl (fun K hK => ?_) AllReadyH.nil
            go_simp
            refine (hbl.out _).mono ?_
            rintro e w7 ⟨rfl, hb7⟩
            have hb7d := ((Below.refl _ wr).drew).step hb7
            go_wp2_with fail
            refine hK.out _ _ ?_ (fun hHeld => ?_)
            · exact ⟨below_step10 hHeld.1 hb7 hHeld.1.size, cell_step hHeld.2 hb7⟩
            clear hK K
            try simp only [List.getElem_toArray, List.getElem_cons_succ, List.getElem_cons_zero, Act.put, List.setIfInBounds_toArray, List.set_cons_zero, List.set_cons_succ]
            refine wpAnyH_take (i := 10) (v := ?vsU1_10) rfl (by kernel_rfl) (by kernel_rfl) (by kernel_rfl) (fun _ _ _ h => h) (Or.inl ⟨rfl, ?ysU1_10⟩) (by assumption) ?_
            case ysU1_10 => (intro w hSw; (try dsimp only at hSw); go_simp; first | done | with_reducible rfl)
            simp only [List.getElem_toArray, List.getElem_cons_succ, List.getElem_cons_zero, Act.put, List.setIfInBounds_toArray, List.set_cons_zero, List.set_cons_succ]
            have hrk := Lib.hid (own_keep10 hrl.out hb7d)
            have hbw7 := Lib.hid hHeld.1
            have hcp := c1
            clear hrl hb7 hb7d
            refine wpAnyH_ready (rs := [11]) (by kernel_rfl) (by simp) ?_
            refine AllReadyH.cons rfl (fun K hK => ?_) AllReadyH.nil
            go_simp
            refine hK.out _ _ ?_ (fun hHeld => ?_)
            · exact ⟨hbw7.out.alloc hbw7.out.size _, cell_on hHeld.2 _⟩
            clear hK K
            try simp only [List.getElem_toArray, List.getElem_cons_succ, List.getElem_cons_zero, Act.put, List.setIfInBounds_toArray, List.set_cons_zero, List.set_cons_succ]
            refine wpAnyH_ready (rs := [12]) (by kernel_rfl) (by simp) ?_
            refine AllReadyH.cons rfl (fun K hK => ?_) AllReadyH.nil
            refine step_append_lies _ rfl (.tmp 28) (.tmp 39) 25 rfl w.heap.size 9 i0 _ 1 16 Try.underlying25 hi hz0 hz1 hz2 rfl (by decide) (.slice A5 (k) c5) (k) (((ls.take k).map (fun x => BB ++ x)).flatMap strC) rfl (hrk.out.alloc _) ⟨w7.heap.size, 0, none⟩ 1 1 [.string (BB ++ x)] rfl rfl (news8 _ _ _) (one8s _) (by decide) (by unfold maxLen; omega) (by omega) (by have := hbw7.out.size; simp [World.drew]; omega) _ rfl (fun g5 cap w5 ho5 hg5 _ hlt5 => ?_)
            have hA5 : ∀ k2, (Value.slice A5 (k) c5).ownBlock = some k2 → w.heap.size ≤ k2 := fun k2 hk2 => owns_ge8 hrk.out hk2
            have hb5 : Hid (Below w.heap.size w w5) := Lib.hid (Below.grown (hbw7.out.alloc hbw7.out.size _) hg5 (by have := hbw7.out.size; simp; omega) hA5)
            have hrow5 : Hid (w5.ownsRow w.heap.size 9 1 (.slice (some ⟨g5, 0, none⟩) (k + 1) cap) (k + 1) (((ls.take (k + 1)).map (fun x => BB ++ x)).flatMap strC)) := Lib.hid (by rw [hsn.out]; exact ho5)
            refine hK.out _ _ ⟨hb5.out, (hb5.out.cell (p := ⟨b, off + k, none⟩) hgl).trans c00.out⟩ (fun hHeld5 => ?_)
            clear hK K hA5 hg5 ho5
            try simp only [List.getElem_toArray, List.getElem_cons_succ, List.getElem_cons_zero, Act.put, List.setIfInBounds_toArray, List.set_cons_zero, List.set_cons_succ]
            refine wpAnyH_take (i := 13) (v := ?vz13) rfl (by kernel_rfl) (by kernel_rfl) (by kernel_rfl) (fun _ _ _ h => h) (Or.inl ⟨rfl, ?yz13⟩) (by assumption) ?_
            case yz13 => (intro w hSw; (try dsimp only at hSw); go_simp; first | done | with_reducible rfl)
            simp only [List.getElem_toArray, List.getElem_cons_succ, List.getElem_cons_zero, Act.put, List.setIfInBounds_toArray, List.set_cons_zero, List.set_cons_succ]
            refine wpAnyH_done (by kernel_rfl) ?_ _
            go_wp2
            go_roundw
            case rel => exact ⟨k + 1, by omega, by go_num, hb5.out, hrow5.out⟩
            case measure => simp [intOf]; omega
          · obtain rfl : k = n := by omega
            have g1 : ¬ (k : Int) < (k : Int) := by omega
            rw [List.take_of_length_le (by rw [hl.out]; exact Nat.le_refl _)] at hrow
            obtain ⟨A9, c9, rfl, hO⟩ := owns_s8 (by rw [List.length_map, hl.out]) hrow
            have hO2 := Lib.hid hO
            clear hO hrow
            go_wp2
            go_ret2
            exact ⟨A9, k, c9, by rw [hcode.out]; rfl, by omega, by rw [hres.out]; exact hO2.out, hbw⟩
set_option maxRecDepth 100000 in
set_option maxHeartbeats 2400000 in
theorem box10_specC (A : Option Addr) (n c : Nat) (ls : List ByteArray) (w : World) (h : Strs w A n ls) (hn : n ≤ 1048576) (hg : ∀ x ∈ ls, x.size ≤ maxLen) :
    Calls Try.prog 9 #[.slice A n c] w (TOut (boR ls) w) := by
  have hl := Lib.hid h.1
  generalize hv : boR ls = res
  replace hv := Lib.hid hv
  obtain ⟨q, hq⟩ : ∃ q, linesB ls = q := ⟨_, rfl⟩
  have hc1 := Lib.hid (lines10 A n c ls hq w h hn hg)
  by_cases h0 : q < 0
  · have hres : Hid (res = ([], 2)) := Lib.hid (by rw [← hv.out, boR, if_pos (by rw [hq]; exact h0)])
    have g0 : decide (q < 0) = true := decide_eq_true h0
    clear hq hv h hg
    go_enter Try.func9, Try.ntmps9
    go_wp2_with fail
    refine hc1.out.mono ?_
    rintro e w1 ⟨rfl, rfl⟩
    go_wp2
    go_ret2
    exact TOut.bad hres.out (Below.refl _ _)
  · have g0 : decide (q < 0) = false := decide_eq_false h0
    by_cases h2 : 96 < q
    · have hres : Hid (res = ([], 5)) := Lib.hid (by rw [← hv.out, boR, if_neg (by rw [hq]; exact h0), if_pos (by rw [hq]; exact h2)])
      have g1 : decide (96 < q) = true := decide_eq_true h2
      clear hq hv h hg
      go_enter Try.func9, Try.ntmps9
      go_wp2_with fail
      refine hc1.out.mono ?_
      rintro e w1 ⟨rfl, rfl⟩
      go_wp2
      go_ret2
      exact TOut.bad hres.out (Below.refl _ _)
    · obtain ⟨l30, e1, l100, hxs⟩ := linesB_ok (ls := ls) (by rw [hq]; exact h0)
      rw [hl.out] at l30
      have hres0 : res = (boE q.toNat :: ls.map (boL q.toNat) ++ [boE q.toNat], 0) := by rw [← hv.out, boR, if_neg (by rw [hq]; exact h0), if_neg (by rw [hq]; exact h2), hq]
      rw [hq] at e1
      obtain ⟨M, hM⟩ : ∃ M, mostL ls = M := ⟨_, rfl⟩
      rw [hM] at e1 l100 hxs
      subst e1
      rw [Int.toNat_natCast] at hres0
      have g1 : decide ((96 : Int) < (M : Int)) = false := decide_eq_false h2
      have g1' : decide (96 < M) = false := decide_eq_false (by omega)
      have m96 : M ≤ 96 := by omega
      have hw1 : IntKind.i64.wrap ((M : Int) + 2) = ((M + 2 : Nat) : Int) := by rw [IntWalk.i64_in _ (by omega)]; omega
      obtain ⟨M2, hM2⟩ : ∃ M2, M + 2 = M2 := ⟨_, rfl⟩
      rw [hM2] at hw1
      have hru : Hid (∀ W', Calls Try.prog 19 #[.int .u8 45, .int .i64 (M2 : Int)] W' fun e w' => e = .returned (.string (repB 45 M2)) ∧ Below W'.heap.size W' w') := Lib.hid (fun W' => rule10 45 M2 (by omega) W')
      have hsz := repB_size 45 M2
      have hsz2 : (repB 45 M2).size ≤ 98 := by omega
      have hE : boE M = ⟨#[43]⟩ ++ repB 45 M2 ++ ⟨#[43]⟩ := by rw [boE, hM2]
      rw [hE] at hres0
      replace hM2 := Lib.hid hM2
      have hres := Lib.hid hres0
      have hcode : Hid (res.2 = 0) := Lib.hid (by rw [hres0])
      have hx0 := Lib.hid hxs
      obtain ⟨i0, hi, hz0, hz1, hz2⟩ := info_parts Try.infoStr
      clear hE hsz hq hv hg h2 h0 hres0 hM hxs
      generalize repB 45 M2 = RR at *
      have hcat1 : ¬ 9223372036854775807 < 1 + RR.size := by omega
      have hcat2 : ¬ 9223372036854775807 < 1 + RR.size + 1 := by omega
      go_enter Try.func9, Try.ntmps9
      go_wp2_with fail
      refine hc1.out.mono ?_
      rintro e w1 ⟨rfl, rfl⟩
      go_wp2_with fail
      refine (hru.out _).mono ?_
      rintro e w2 ⟨rfl, hb2⟩
      go_wp2
      go_loopw [6, 7] (fun v i wr => ∃ k : Nat, k ≤ n ∧ i = .int .i64 (k : Int) ∧ Below w.heap.size w wr ∧ wr.ownsRow w.heap.size 9 1 v (k + 1) (((⟨#[43]⟩ ++ RR ++ ⟨#[43]⟩ : ByteArray) :: (ls.take k).map (boL M)).flatMap strC)) (fun _ i _ => n - (intOf i).toNat)
      case atStart => exact ⟨0, by omega, rfl, hb2.alloc hb2.size _, owns_one8 _ hb2.size⟩
      case round =>
        rename World => wr
        obtain ⟨k, hk, rfl, hbw, hrow⟩ := hrel
        have hwz := hbw.size
        by_cases hlt : k < n
        · obtain ⟨b, off, x, rfl, hgl, hx, c00⟩ := str_at h hlt
          have c1 := cell_step c00 hbw
          have hxz := hx0.out x (List.mem_of_getElem? hx.out)
          have hw2 : IntKind.i64.wrap ((M : Int) - (x.size : Int)) = ((M - x.size : Nat) : Int) := by rw [IntWalk.i64_in _ (by omega)]; omega
          have hsn := Lib.hid (snoc_m2 (g := boL M) (E := ⟨#[43]⟩ ++ RR ++ ⟨#[43]⟩) hx.out)
          have hbx : boL M x = ⟨#[124, 32]⟩ ++ x ++ repB 32 (M - x.size) ++ ⟨#[32, 124]⟩ := rfl
          rw [hbx] at hsn
          obtain ⟨d, hd⟩ : ∃ d, M - x.size = d := ⟨_, rfl⟩
          rw [hd] at hw2 hsn
          have hbl := Lib.hid (fun W' => blanks10 d (by omega) W')
          have hbs := repB_size 32 d
          have hbs2 : (repB 32 d).size ≤ 100 := by omega
          replace hd := Lib.hid hd
          clear hbs hbx
          generalize repB 32 d = BB at *
          have hcat3 : ¬ 9223372036854775807 < 2 + x.size := by omega
          have hcat4 : ¬ 9223372036854775807 < 2 + x.size + BB.size := by omega
          have hcat5 : ¬ 9223372036854775807 < 2 + x.size + BB.size + 2 := by omega
          have hk0' : (0 : Int) ≤ (k : Int) := Int.natCast_nonneg _
          have hkm : (k : Int) < (n : Int) := by omega
          obtain ⟨A5, c5, rfl⟩ := owns_form8 hrow
          have hrl := Lib.hid hrow
          replace c00 := Lib.hid c00
          clear hrow
          go_wp2_with fail
          refine wp_region_held_drew (S := fun w' => Below w.heap.size w w' ∧ w'.cell? ⟨b, off + k, none⟩ = some (.string x)) (by kernel_rfl) ?_ (fun hHeld => ?_)
          · exact ⟨hbw.drew, c1⟩
          refine wpAnyH_take (i := 0) (v := ?vbU2_0) rfl (by kernel_rfl) (by kernel_rfl) (by kernel_rfl) (fun _ _ _ h => h) (Or.inl ⟨rfl, ?ybU2_0⟩) (by assumption) ?_
          case ybU2_0 => (intro w hSw; (try dsimp only at hSw); go_simp; first | done | with_reducible rfl)
          simp only [List.getElem_toArray, List.getElem_cons_succ, List.getElem_cons_zero, Act.put, List.setIfInBounds_toArray, List.set_cons_zero, List.set_cons_succ]
          refine wpAnyH_take (i := 1) (v := ?vbU2_1) rfl (by kernel_rfl) (by kernel_rfl) (by kernel_rfl) (fun _ _ _ h => h) (Or.inl ⟨rfl, ?ybU2_1⟩) (by assumption) ?_
          case ybU2_1 => (intro w hSw; (try dsimp only at hSw); go_simp; first | done | with_reducible rfl)
          simp only [List.getElem_toArray, List.getElem_cons_succ, List.getElem_cons_zero, Act.put, List.setIfInBounds_toArray, List.set_cons_zero, List.set_cons_succ]
          refine wpAnyH_take (i := 2) (v := ?vbU2_2) rfl (by kernel_rfl) (by kernel_rfl) (by kernel_rfl) (fun _ _ _ h => h) (Or.inl ⟨rfl, ?ybU2_2⟩) (by assumption) ?_
          case ybU2_2 => (intro w hSw; (try dsimp only at hSw); go_simp; first | done | with_reducible rfl)
          simp only [List.getElem_toArray, List.getElem_cons_succ, List.getElem_cons_zero, Act.put, List.setIfInBounds_toArray, List.set_cons_zero, List.set_cons_succ]
          refine wpAnyH_take (i := 3) (v := ?vbU2_3) rfl (by kernel_rfl) (by kernel_rfl) (by kernel_rfl) (fun _ _ _ h => h) (Or.inl ⟨rfl, ?ybU2_3⟩) (by assumption) ?_
          case ybU2_3 => (intro w hSw; (try dsimp only at hSw); go_simp; first | done | with_reducible rfl)
          simp only [List.getElem_toArray, List.getElem_cons_succ, List.getElem_cons_zero, Act.put, List.setIfInBounds_toArray, List.set_cons_zero, List.set_cons_succ]
          refine wpAnyH_take (i := 4) (v := ?vbU2_4) rfl (by kernel_rfl) (by kernel_rfl) (by kernel_rfl) (fun _ _ _ h => h) (Or.inl ⟨rfl, ?ybU2_4⟩) (by assumption) ?_
          case ybU2_4 => (intro w hSw; (try dsimp only at hSw); go_simp; first | done | with_reducible rfl)
          simp only [List.getElem_toArray, List.getElem_cons_succ, List.getElem_cons_zero, Act.put, List.setIfInBounds_toArray, List.set_cons_zero, List.set_cons_succ]
          refine wpAnyH_take (i := 5) (v := ?vbU2_5) rfl (by kernel_rfl) (by kernel_rfl) (by kernel_rfl) (fun _ _ _ h => h) (Or.inl ⟨rfl, ?ybU2_5⟩) (by assumption) ?_
          case ybU2_5 => (intro w hSw; (try dsimp only at hSw); go_simp; first | done | with_reducible rfl)
          simp only [List.getElem_toArray, List.getElem_cons_succ, List.getElem_cons_zero, Act.put, List.setIfInBounds_toArray, List.set_cons_zero, List.set_cons_succ]
          refine wpAnyH_take (i := 6) (v := ?vbU2_6) rfl (by kernel_rfl) (by kernel_rfl) (by kernel_rfl) (fun _ _ _ h => h) (Or.inl ⟨rfl, ?ybU2_6⟩) (by assumption) ?_
          case ybU2_6 => (intro w hSw; (try dsimp only at hSw); go_simp; first | done | with_reducible rfl)
          simp only [List.getElem_toArray, List.getElem_cons_succ, List.getElem_cons_zero, Act.put, List.setIfInBounds_toArray, List.set_cons_zero, List.set_cons_succ]
          refine wpAnyH_take (i := 7) (v := ?vbU2_7) rfl (by kernel_rfl) (by kernel_rfl) (by kernel_rfl) (fun _ _ _ h => h) (Or.inl ⟨rfl, ?ybU2_7⟩) (by assumption) ?_
          case ybU2_7 => (intro w hSw; (try dsimp only at hSw); go_simp; first | done | with_reducible rfl)
          simp only [List.getElem_toArray, List.getElem_cons_succ, List.getElem_cons_zero, Act.put, List.setIfInBounds_toArray, List.set_cons_zero, List.set_cons_succ]
          refine wpAnyH_take (i := 8) (v := ?vbU2_8) rfl (by kernel_rfl) (by kernel_rfl) (by kernel_rfl) (fun _ _ _ h => h) (Or.inl ⟨rfl, ?ybU2_8⟩) (by assumption) ?_
          case ybU2_8 => (intro w hSw; (try dsimp only at hSw); go_simp; first | done | with_reducible rfl)
          simp only [List.getElem_toArray, List.getElem_cons_succ, List.getElem_cons_zero, Act.put, List.setIfInBounds_toArray, List.set_cons_zero, List.set_cons_succ]
          refine wpAnyH_take (i := 9) (v := ?vbU2_9) rfl (by kernel_rfl) (by kernel_rfl) (by kernel_rfl) (fun _ _ _ h => h) (Or.inl ⟨rfl, ?ybU2_9⟩) (by assumption) ?_
          case ybU2_9 => (intro w hSw; (try dsimp only at hSw); go_simp; first | done | with_reducible rfl)
          simp only [List.getElem_toArray, List.getElem_cons_succ, List.getElem_cons_zero, Act.put, List.setIfInBounds_toArray, List.set_cons_zero, List.set_cons_succ]
          refine wpAnyH_take (i := 10) (v := ?vbU2_10) rfl (by kernel_rfl) (by kernel_rfl) (by kernel_rfl) (fun _ _ _ h => h) (Or.inl ⟨rfl, ?ybU2_10⟩) (by assumption) ?_
          case ybU2_10 => (intro w hSw; (try dsimp only at hSw); go_simp; first | done | with_reducible rfl)
          simp only [List.getElem_toArray, List.getElem_cons_succ, List.getElem_cons_zero, Act.put, List.setIfInBounds_toArray, List.set_cons_zero, List.set_cons_succ]
          refine wpAnyH_take (i := 11) (v := ?vbU2_11) rfl (by kernel_rfl) (by kernel_rfl) (by kernel_rfl) (fun _ _ _ h => h) (Or.inl ⟨rfl, ?ybU2_11⟩) (by assumption) ?_
          case ybU2_11 => (intro w hSw; (try dsimp only at hSw); go_simp; first | done | with_reducible rfl)
          simp only [List.getElem_toArray, List.getElem_cons_succ, List.getElem_cons_zero, Act.put, List.setIfInBounds_toArray, List.set_cons_zero, List.set_cons_succ]
          refine wpAnyH_take (i := 12) (v := ?vbU2_12) rfl (by kernel_rfl) (by kernel_rfl) (by kernel_rfl) (fun _ _ _ h => h) (Or.inl ⟨rfl, ?ybU2_12⟩) (by assumption) ?_
          case ybU2_12 => (intro w hSw; (try dsimp only at hSw); go_simp; first | done | with_reducible rfl)
          simp only [List.getElem_toArray, List.getElem_cons_succ, List.getElem_cons_zero, Act.put, List.setIfInBounds_toArray, List.set_cons_zero, List.set_cons_succ]
          refine wpAnyH_ready (rs := [13]) (by kernel_rfl) (by simp) ?_
          refine AllReadyH.cons rfl (fun K hK => ?_) AllReadyH.nil
          go_simp
          refine (hbl.out _).mono ?_
          rintro e w7 ⟨rfl, hb7⟩
          have hb7d := ((Below.refl _ wr).drew).step hb7
          go_wp2_with fail
          refine hK.out _ _ ?_ (fun hHeld => ?_)
          · exact ⟨below_step10 hHeld.1 hb7 hHeld.1.size, cell_step hHeld.2 hb7⟩
          clear hK K
          try simp only [List.getElem_toArray, List.getElem_cons_succ, List.getElem_cons_zero, Act.put, List.setIfInBounds_toArray, List.set_cons_zero, List.set_cons_succ]
          refine wpAnyH_take (i := 14) (v := ?vbU2_14) rfl (by kernel_rfl) (by kernel_rfl) (by kernel_rfl) (fun _ _ _ h => h) (Or.inl ⟨rfl, ?ybU2_14⟩) (by assumption) ?_
          case ybU2_14 => (intro w hSw; (try dsimp only at hSw); go_simp; first | done | with_reducible rfl)
          simp only [List.getElem_toArray, List.getElem_cons_succ, List.getElem_cons_zero, Act.put, List.setIfInBounds_toArray, List.set_cons_zero, List.set_cons_succ]
          refine wpAnyH_take (i := 15) (v := ?vbU2_15) rfl (by kernel_rfl) (by kernel_rfl) (by kernel_rfl) (fun _ _ _ h => h) (Or.inl ⟨rfl, ?ybU2_15⟩) (by assumption) ?_
          case ybU2_15 => (intro w hSw; (try dsimp only at hSw); go_simp; first | done | with_reducible rfl)
          simp only [List.getElem_toArray, List.getElem_cons_succ, List.getElem_cons_zero, Act.put, List.setIfInBounds_toArray, List.set_cons_zero, List.set_cons_succ]
          generalize (⟨#[124, 32]⟩ ++ x ++ BB ++ ⟨#[32, 124]⟩ : ByteArray) = SB at *
          have hrk := Lib.hid (own_keep10 hrl.out hb7d)
          have hbw7 := Lib.hid hHeld.1
          have hcp := c1
          clear hrl hb7 hb7d
          refine wpAnyH_ready (rs := [16]) (by kernel_rfl) (by simp) ?_
          refine AllReadyH.cons rfl (fun K hK => ?_) AllReadyH.nil
          go_simp
          refine hK.out _ _ ?_ (fun hHeld => ?_)
          · exact ⟨hbw7.out.alloc hbw7.out.size _, cell_on hHeld.2 _⟩
          clear hK K
          try simp only [List.getElem_toArray, List.getElem_cons_succ, List.getElem_cons_zero, Act.put, List.setIfInBounds_toArray, List.set_cons_zero, List.set_cons_succ]
          refine wpAnyH_ready (rs := [17]) (by kernel_rfl) (by simp) ?_
          refine AllReadyH.cons rfl (fun K hK => ?_) AllReadyH.nil
          refine step_append_lies _ rfl (.tmp 27) (.tmp 43) 25 rfl w.heap.size 9 i0 _ 1 16 Try.underlying25 hi hz0 hz1 hz2 rfl (by decide) (.slice A5 (k + 1) c5) (k + 1) (((⟨#[43]⟩ ++ RR ++ ⟨#[43]⟩ : ByteArray) :: (ls.take k).map (boL M)).flatMap strC) rfl (hrk.out.alloc _) ⟨w7.heap.size, 0, none⟩ 1 1 [.string (SB)] rfl rfl (news8 _ _ _) (one8s _) (by decide) (by unfold maxLen; omega) (by omega) (by have := hbw7.out.size; simp [World.drew]; omega) _ rfl (fun g5 cap w5 ho5 hg5 _ hlt5 => ?_)
          have hA5 : ∀ k2, (Value.slice A5 (k + 1) c5).ownBlock = some k2 → w.heap.size ≤ k2 := fun k2 hk2 => owns_ge8 hrk.out hk2
          have hb5 : Hid (Below w.heap.size w w5) := Lib.hid (Below.grown (hbw7.out.alloc hbw7.out.size _) hg5 (by have := hbw7.out.size; simp; omega) hA5)
          have hrow5 : Hid (w5.ownsRow w.heap.size 9 1 (.slice (some ⟨g5, 0, none⟩) (k + 1 + 1) cap) (k + 1 + 1) (((⟨#[43]⟩ ++ RR ++ ⟨#[43]⟩ : ByteArray) :: (ls.take (k + 1)).map (boL M)).flatMap strC)) := Lib.hid (by rw [hsn.out]; exact ho5)
          refine hK.out _ _ ⟨hb5.out, (hb5.out.cell (p := ⟨b, off + k, none⟩) hgl).trans c00.out⟩ (fun hHeld5 => ?_)
          clear hK K hA5 hg5 ho5
          try simp only [List.getElem_toArray, List.getElem_cons_succ, List.getElem_cons_zero, Act.put, List.setIfInBounds_toArray, List.set_cons_zero, List.set_cons_succ]
          refine wpAnyH_take (i := 18) (v := ?vz18) rfl (by kernel_rfl) (by kernel_rfl) (by kernel_rfl) (fun _ _ _ h => h) (Or.inl ⟨rfl, ?yz18⟩) (by assumption) ?_
          case yz18 => (intro w hSw; (try dsimp only at hSw); go_simp; first | done | with_reducible rfl)
          simp only [List.getElem_toArray, List.getElem_cons_succ, List.getElem_cons_zero, Act.put, List.setIfInBounds_toArray, List.set_cons_zero, List.set_cons_succ]
          refine wpAnyH_done (by kernel_rfl) ?_ _
          go_wp2
          go_roundw
          case rel => exact ⟨k + 1, by omega, by go_num, hb5.out, hrow5.out⟩
          case measure => simp [intOf]; omega
        · obtain rfl : k = n := by omega
          have g1 : ¬ (k : Int) < (k : Int) := by omega
          rw [List.take_of_length_le (by rw [hl.out]; exact Nat.le_refl _)] at hrow
          have hrl := Lib.hid hrow
          clear hrow
          go_wp2_with (at_builtin; refine wpList_append_own _ rfl _ _ 25 rfl w.heap.size 9 i0 _ 1 16 Try.underlying25 hi hz0 hz1 hz2 rfl (by decide) _ _ _ rfl (hrl.out.alloc _) ⟨wr.heap.size, 0, none⟩ 1 1 [.string (⟨#[43]⟩ ++ RR ++ ⟨#[43]⟩ : ByteArray)] rfl rfl (news8 _ _ _) (one8s _) (by unfold maxLen; omega) (by omega) (by simp; omega) ?_)
          intro vqq wqq hownqq hgrqq hnilqq
          have hgqqq := grown_trans (grown_below (below_a1 wr _) _) hgrqq
          clear hgrqq hnilqq
          have hq : Hid (wqq.ownsRow w.heap.size 9 1 vqq (k + 1 + 1) (((⟨#[43]⟩ ++ RR ++ ⟨#[43]⟩ : ByteArray) :: ls.map (boL M) ++ [(⟨#[43]⟩ ++ RR ++ ⟨#[43]⟩ : ByteArray)]).flatMap strC) ∧ Below w.heap.size w wqq) := Lib.hid ⟨by rw [snoc8s]; exact hownqq, hbw.grown hgqqq hwz (fun j hj => owns_ge8 hrl.out hj)⟩
          clear hownqq hgqqq
          obtain ⟨A9, c9, rfl, hO⟩ := owns_s8 (by rw [List.length_append, List.length_cons, List.length_map, hl.out]; rfl) hq.out.1
          have hO2 := Lib.hid hO
          have hbe := hq.out.2
          clear hO hq
          go_wp2
          go_ret2
          exact ⟨A9, k + 1 + 1, c9, by rw [hcode.out]; rfl, by omega, by rw [hres.out]; exact hO2.out, hbe⟩
end Go.Proofs.Ytalmpiffjghhkaa
