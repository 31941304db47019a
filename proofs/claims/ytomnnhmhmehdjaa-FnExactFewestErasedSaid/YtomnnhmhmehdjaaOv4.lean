/- Corrections: SeenOver of the program. -/
import Derived.Test.YtomnnhmhmehdjaaOv3
namespace Go.Proofs.Ytomnnhmhmehdjaa
open Go.RowKit Go.ChangeShapes Go.WideShapes Go.Deep Go.ChangeMaps Go.MapKept
set_option linter.unusedVariables false
set_option linter.unusedSimpArgs false

theorem encode_byteN12 {c : Nat} (h : c < 128) : Utf8.encode (c : Int) = ⟨#[UInt8.ofNat c]⟩ := by
  have hv : Utf8.valid (c : Int) = true := by
    unfold Utf8.valid
    simp
    omega
  unfold Utf8.encode
  simp only [hv, if_true, Int.toNat_natCast, h]
theorem encode_byte12 {c : UInt8} (h : c.toNat < 128) : Utf8.encode (c.toNat : Int) = ⟨#[c]⟩ := by
  rw [encode_byteN12 h, UInt8.ofNat_toNat]
theorem tyb12 (s : ByteArray) {v : Bool} (hv : byC s = v) (w : World) (hs : s.size ≤ maxLen) :
    Calls Try.prog 57 #[.string s] w fun e w' => e = .returned (.bool v) ∧ w = w' := by
  cases h1 : (s.toList == [32]) with
  | true =>
    have e : s = ⟨#[32]⟩ := by
      rw [beq_iff_eq, ByteArray.toList_eq] at h1
      exact bytes_eq h1
    have hr : Hid (v = true) := Lib.hid (by rw [← hv, e]; rfl)
    clear hv e
    go_enter Try.func57, Try.ntmps57
    go_wp2
    go_ret
    exact ⟨ret_bo hr.out.symm, rfl⟩
  | false =>
    have hlb : letC s = v := by
      rw [← hv, letC, byC]
      by_cases hz : s.size = 1
      · have hn : (bAt s 0).toNat ≠ 32 := fun hh => by
          have e : s = ⟨#[32]⟩ := by rw [one_text12 hz, UInt8.toNat_inj.1 (show (bAt s 0).toNat = (32 : UInt8).toNat from hh)]
          rw [e] at h1
          simp at h1
        rw [decide_eq_true hz, Bool.true_and, Bool.true_and]
        congr 1
        by_cases h33 : 33 ≤ (bAt s 0).toNat
        · rw [decide_eq_true h33, decide_eq_true (by omega)]
        · rw [decide_eq_false h33, decide_eq_false (by omega)]
      · rw [decide_eq_false hz, Bool.false_and, Bool.false_and]
    have hc := Lib.hid (fun W => isLet12 s hlb W hs)
    clear hlb hv
    go_enter Try.func57, Try.ntmps57
    go_wp2_with fail
    refine (hc.out _).mono ?_
    rintro e w1 ⟨rfl, rfl⟩
    go_wp2
    go_ret
    exact ⟨rfl, rfl⟩
theorem byC_in {s : ByteArray} (h : byC s = true) : 32 ≤ (bAt s 0).toNat ∧ (bAt s 0).toNat ≤ 126 := by
  simp only [byC, Bool.and_eq_true, decide_eq_true_eq] at h
  exact h.2
theorem see_seen {ps : List OverD} {u t : UInt8} (hu : u.toNat ≠ 0) (ht : t.toNat ≠ 0) : seeR ps u t = (seenV ps u t, !decide ((seenV ps u t).toNat = 0)) := by
  unfold seeR seenV
  by_cases h1 : u = t
  · rw [if_pos (.inl h1), if_pos h1, decide_eq_false hu]; rfl
  · by_cases h2 : t.toNat = 32
    · rw [if_pos (.inr h2), if_neg h1, if_pos h2, decide_eq_false hu]; rfl
    · rw [if_neg (fun h => h.elim h1 h2), if_neg h1, if_neg h2]
      by_cases h3 : u.toNat = 32
      · rw [if_pos h3, if_pos h3, decide_eq_false ht]; rfl
      · rw [if_neg h3, if_neg h3]
theorem seenL_le {ps : List OverD} (h : ∀ x ∈ ps, oneB x = true) (u t : UInt8) : (seenL ps u t).toNat ≤ 126 := by
  induction ps with
  | nil => rw [seenL]; decide
  | cons x r ih =>
    rw [seenL]
    split
    · have := (oneB_parts (h x List.mem_cons_self)).2.2
      simp only [letC, Bool.and_eq_true, decide_eq_true_eq] at this
      exact this.2.2
    · exact ih (fun y hy => h y (List.mem_cons_of_mem _ hy))
theorem ovB_oneB {ps : List OverD} (h : ovB ps = true) : ∀ x ∈ ps, oneB x = true := by
  simp only [ovB, Bool.and_eq_true] at h
  exact okFrom_one h.1
theorem seenV_le {ps : List OverD} (h : ∀ x ∈ ps, oneB x = true) {u t : UInt8} (hu : u.toNat ≤ 126) (ht : t.toNat ≤ 126) : (seenV ps u t).toNat ≤ 126 := by
  unfold seenV
  split
  · exact hu
  · split
    · exact hu
    · split
      · exact ht
      · exact seenL_le h u t
theorem ret12_p {p : ByteArray × Int} {a : ByteArray} {b : Int} (h : p = (a, b)) : Ending.returned (.tuple #[.string a, .int .i64 b]) = .returned (.tuple #[.string p.1, .int .i64 p.2]) := by rw [h]
set_option maxRecDepth 100000 in
set_option maxHeartbeats 2400000 in
theorem so12_impl (A : Option Addr) (n c : Nat) (ps : List OverD) (u t : ByteArray) (w : World) (h : Overs w A n ps) (hn : n ≤ 1048576) (hg : ∀ x ∈ ps, x.good) (hu : u.size ≤ 1048576) (ht : t.size ≤ 1048576) :
    Calls Try.prog 21 #[.slice A n c, .string u, .string t] w fun e w' => e = .returned (.tuple #[.string (soR ps u t).1, .int .i64 (soR ps u t).2]) ∧ Below w.heap.size w w' := by
  generalize hr : soR ps u t = r
  replace hr := Lib.hid hr.symm
  have hum : u.size ≤ maxLen := by unfold maxLen; omega
  have htm : t.size ≤ maxLen := by unfold maxLen; omega
  cases h1 : ovB ps with
  | false =>
    have hres : Hid (r = (ByteArray.empty, 1)) := Lib.hid (by rw [hr.out, soR, h1]; rfl)
    have hc := Lib.hid (newov12 A n c ps h1 w h hn hg)
    clear hr h1 h hg
    go_enter Try.func21, Try.ntmps21
    go_wp2_with fail
    refine (hc.out).mono ?_
    rintro e w1 ⟨hb1, ⟨_, rfl⟩ | ⟨h9, _⟩⟩
    · go_wp2
      go_ret2
      exact ⟨ret12_p hres.out, hb1.alloc hb1.size _⟩
    · cases h9
  | true =>
    have hc := Lib.hid (newov12 A n c ps h1 w h hn hg)
    have hone := Lib.hid (ovB_oneB h1)
    have hpos := Lib.hid (fun x (hx : x ∈ ps) => letC_pos (oneB_parts (hone.out x hx)).2.2)
    cases h2 : byC u with
    | false =>
      have hres : Hid (r = (ByteArray.empty, 2)) := Lib.hid (by rw [hr.out, soR, h1, h2]; rfl)
      have hc2 := Lib.hid (fun W => tyb12 u h2 W hum)
      clear hr h1 h hg h2
      go_enter Try.func21, Try.ntmps21
      go_wp2_with fail
      refine (hc.out).mono ?_
      rintro e w1 ⟨hb1, ⟨h9, _⟩ | ⟨_, r1, r2, rfl, hM1, hM2⟩⟩
      · cases h9
      · go_wp2_with fail
        refine (hc2.out _).mono ?_
        rintro e w2 ⟨rfl, rfl⟩
        go_wp2
        go_ret2
        exact ⟨ret12_p hres.out, hb1.alloc hb1.size _⟩
    | true =>
      have hc2 := Lib.hid (fun W => tyb12 u h2 W hum)
      cases h3 : byC t with
      | false =>
        have hres : Hid (r = (ByteArray.empty, 2)) := Lib.hid (by rw [hr.out, soR, h1, h2, h3]; rfl)
        have hc3 := Lib.hid (fun W => tyb12 t h3 W htm)
        clear hr h1 h hg h2 h3
        go_enter Try.func21, Try.ntmps21
        go_wp2_with fail
        refine (hc.out).mono ?_
        rintro e w1 ⟨hb1, ⟨h9, _⟩ | ⟨_, r1, r2, rfl, hM1, hM2⟩⟩
        · cases h9
        · go_wp2_with fail
          refine (hc2.out _).mono ?_
          rintro e w2 ⟨rfl, rfl⟩
          go_wp2_with fail
          refine (hc3.out _).mono ?_
          rintro e w2 ⟨rfl, rfl⟩
          go_wp2
          go_ret2
          exact ⟨ret12_p hres.out, hb1.alloc hb1.size _⟩
      | true =>
        have hc3 := Lib.hid (fun W => tyb12 t h3 W htm)
        have su := byC_size h2
        have st := byC_size h3
        have pu : 0 < u.size := by omega
        have pt : 0 < t.size := by omega
        have iu : (0 : Int) < (u.size : Int) := by omega
        have it : (0 : Int) < (t.size : Int) := by omega
        obtain ⟨lu, mu⟩ := byC_in h2
        obtain ⟨lt', mt⟩ := byC_in h3
        have hres : Hid (r = if (seenV ps (bAt u 0) (bAt t 0)).toNat = 0 then (ByteArray.empty, 3) else (repB (seenV ps (bAt u 0) (bAt t 0)) 1, 0)) := Lib.hid (by rw [hr.out, soR, h1, h2, h3]; rfl)
        have hsv := seenV_le hone.out mu mt
        have hsee := Lib.hid (fun r1 r2 W hW => see12 r1 r2 ps hpos.out (bAt u 0) (bAt t 0) W hW)
        rw [see_seen (by omega) (by omega)] at hsee
        rw [bAt_eq pu, bAt_eq pt] at hsee hres hsv
        clear hr h1 h hg h2 h3 lu mu lt' mt
        generalize seenV ps u[0] t[0] = z at *
        have hcv := fun (W : World) => run_convert_int_string (P := Try.prog) W 21 9 .i32 (z.toNat : Int) (by kernel_rfl) Try.underlying9
        rw [encode_byte12 (by omega)] at hcv
        by_cases h0 : z.toNat = 0
        · rw [decide_eq_true h0] at hsee
          have hres2 : Hid (r = (ByteArray.empty, 3)) := Lib.hid (by rw [hres.out, if_pos h0])
          replace h0 := Lib.hid h0
          clear hres
          go_enter Try.func21, Try.ntmps21
          go_wp2_with fail
          refine (hc.out).mono ?_
          rintro e w1 ⟨hbw1, ⟨h9, _⟩ | ⟨_, r1, r2, rfl, hM1, hM2⟩⟩
          · cases h9
          · go_wp2_with fail
            refine (hc2.out _).mono ?_
            rintro e w2 ⟨rfl, rfl⟩
            go_wp2_with fail
            refine (hc3.out _).mono ?_
            rintro e w2 ⟨rfl, rfl⟩
            have hM3 := Lib.hid (hM1.below (B := w1.heap.size) ((below_a1 w1 (.cells #[.map (some r1), .map (some r2)] 74)).drew) hM1.lt)
            go_wp2_with fail
            refine wp_region_held_drew (S := fun w' => Below w.heap.size w w' ∧ w'.cell? ⟨w1.heap.size, 0, none⟩ = some (.map (some r1)) ∧ w'.cell? ⟨w1.heap.size, 1, none⟩ = some (.map (some r2))) (by kernel_rfl) ?_ (fun hHeld => ?_)
            · exact ⟨(hbw1.alloc hbw1.size _).drew, cell_new rfl rfl, cell_new rfl rfl⟩
            refine wpAnyH_take (i := 0) (v := ?vaU1_0) rfl (by kernel_rfl) (by kernel_rfl) (by kernel_rfl) (fun _ _ _ h => h) (Or.inl ⟨rfl, ?yaU1_0⟩) (by assumption) ?_
            case yaU1_0 => (intro w hSw; (try dsimp only at hSw); go_simp; first | done | with_reducible rfl)
            simp only [List.getElem_toArray, List.getElem_cons_succ, List.getElem_cons_zero, Act.put, List.setIfInBounds_toArray, List.set_cons_zero, List.set_cons_succ]
            refine wpAnyH_take (i := 1) (v := ?vaU1_1) rfl (by kernel_rfl) (by kernel_rfl) (by kernel_rfl) (fun _ _ _ h => h) (Or.inl ⟨rfl, ?yaU1_1⟩) (by assumption) ?_
            case yaU1_1 => (intro w hSw; (try dsimp only at hSw); go_simp; first | done | with_reducible rfl)
            simp only [List.getElem_toArray, List.getElem_cons_succ, List.getElem_cons_zero, Act.put, List.setIfInBounds_toArray, List.set_cons_zero, List.set_cons_succ]
            refine wpAnyH_take (i := 2) (v := ?vaU1_2) rfl (by kernel_rfl) (by kernel_rfl) (by kernel_rfl) (fun _ _ _ h => h) (Or.inl ⟨rfl, ?yaU1_2⟩) (by assumption) ?_
            case yaU1_2 => (intro w hSw; (try dsimp only at hSw); go_simp; first | done | with_reducible rfl)
            simp only [List.getElem_toArray, List.getElem_cons_succ, List.getElem_cons_zero, Act.put, List.setIfInBounds_toArray, List.set_cons_zero, List.set_cons_succ]
            refine wpAnyH_take (i := 3) (v := ?vaU1_3) rfl (by kernel_rfl) (by kernel_rfl) (by kernel_rfl) (fun _ _ _ h => h) (Or.inl ⟨rfl, ?yaU1_3⟩) (by assumption) ?_
            case yaU1_3 => (intro w hSw; (try dsimp only at hSw); go_simp; first | done | with_reducible rfl)
            simp only [List.getElem_toArray, List.getElem_cons_succ, List.getElem_cons_zero, Act.put, List.setIfInBounds_toArray, List.set_cons_zero, List.set_cons_succ]
            refine wpAnyH_take (i := 4) (v := ?vaU1_4) rfl (by kernel_rfl) (by kernel_rfl) (by kernel_rfl) (fun _ _ _ h => h) (Or.inl ⟨rfl, ?yaU1_4⟩) (by assumption) ?_
            case yaU1_4 => (intro w hSw; (try dsimp only at hSw); go_simp; first | done | with_reducible rfl)
            simp only [List.getElem_toArray, List.getElem_cons_succ, List.getElem_cons_zero, Act.put, List.setIfInBounds_toArray, List.set_cons_zero, List.set_cons_succ]
            refine wpAnyH_ready (rs := [5]) (by kernel_rfl) (by simp) ?_
            refine AllReadyH.cons rfl (fun K hK => ?_) AllReadyH.nil
            go_simp
            refine (hsee.out r1 r2 _ hM3.out).mono ?_
            rintro e w5 ⟨rfl, hb5⟩
            go_wp2_with fail
            refine hK.out _ _ ?_ (fun hHeld => ?_)
            · exact ⟨hHeld.1.step hb5, cell_step hHeld.2.1 hb5, cell_step hHeld.2.2 hb5⟩
            clear hK K
            try simp only [List.getElem_toArray, List.getElem_cons_succ, List.getElem_cons_zero, Act.put, List.setIfInBounds_toArray, List.set_cons_zero, List.set_cons_succ]
            refine wpAnyH_take (i := 6) (v := ?vaU1_6) rfl (by kernel_rfl) (by kernel_rfl) (by kernel_rfl) (fun _ _ _ h => h) (Or.inl ⟨rfl, ?yaU1_6⟩) (by assumption) ?_
            case yaU1_6 => (intro w hSw; (try dsimp only at hSw); go_simp; first | done | with_reducible rfl)
            simp only [List.getElem_toArray, List.getElem_cons_succ, List.getElem_cons_zero, Act.put, List.setIfInBounds_toArray, List.set_cons_zero, List.set_cons_succ]
            refine wpAnyH_take (i := 7) (v := ?vaU1_7) rfl (by kernel_rfl) (by kernel_rfl) (by kernel_rfl) (fun _ _ _ h => h) (Or.inl ⟨rfl, ?yaU1_7⟩) (by assumption) ?_
            case yaU1_7 => (intro w hSw; (try dsimp only at hSw); go_simp; first | done | with_reducible rfl)
            simp only [List.getElem_toArray, List.getElem_cons_succ, List.getElem_cons_zero, Act.put, List.setIfInBounds_toArray, List.set_cons_zero, List.set_cons_succ]
            refine wpAnyH_take (i := 8) (v := ?vaU1_8) rfl (by kernel_rfl) (by kernel_rfl) (by kernel_rfl) (fun _ _ _ h => h) (Or.inl ⟨rfl, ?yaU1_8⟩) (by assumption) ?_
            case yaU1_8 => (intro w hSw; (try dsimp only at hSw); go_simp; first | done | with_reducible rfl)
            simp only [List.getElem_toArray, List.getElem_cons_succ, List.getElem_cons_zero, Act.put, List.setIfInBounds_toArray, List.set_cons_zero, List.set_cons_succ]
            refine wpAnyH_take (i := 9) (v := ?vaU1_9) rfl (by kernel_rfl) (by kernel_rfl) (by kernel_rfl) (fun _ _ _ h => h) (Or.inl ⟨rfl, ?yaU1_9⟩) (by assumption) ?_
            case yaU1_9 => (intro w hSw; (try dsimp only at hSw); go_simp; first | done | with_reducible rfl)
            simp only [List.getElem_toArray, List.getElem_cons_succ, List.getElem_cons_zero, Act.put, List.setIfInBounds_toArray, List.set_cons_zero, List.set_cons_succ]
            refine wpAnyH_take (i := 10) (v := ?vaU1_10) rfl (by kernel_rfl) (by kernel_rfl) (by kernel_rfl) (fun _ _ _ h => h) (Or.inl ⟨rfl, ?yaU1_10⟩) (by assumption) ?_
            case yaU1_10 => (intro w hSw; (try dsimp only at hSw); go_simp; first | done | with_reducible rfl)
            simp only [List.getElem_toArray, List.getElem_cons_succ, List.getElem_cons_zero, Act.put, List.setIfInBounds_toArray, List.set_cons_zero, List.set_cons_succ]
            refine wpAnyH_done (by kernel_rfl) ?_ _
            have hbf := Lib.hid hHeld.1
            clear hHeld hM1 hM2
            go_wp2
            go_ret2
            exact ⟨ret12_p hres2.out, hbf.out⟩
        · rw [decide_eq_false h0] at hsee
          have hres2 : Hid (r = (⟨#[z]⟩, 0)) := Lib.hid (by rw [hres.out, if_neg h0]; rfl)
          replace h0 := Lib.hid h0
          clear hres
          go_enter Try.func21, Try.ntmps21
          go_wp2_with fail
          refine (hc.out).mono ?_
          rintro e w1 ⟨hbw1, ⟨h9, _⟩ | ⟨_, r1, r2, rfl, hM1, hM2⟩⟩
          · cases h9
          · go_wp2_with fail
            refine (hc2.out _).mono ?_
            rintro e w2 ⟨rfl, rfl⟩
            go_wp2_with fail
            refine (hc3.out _).mono ?_
            rintro e w2 ⟨rfl, rfl⟩
            have hM3 := Lib.hid (hM1.below (B := w1.heap.size) ((below_a1 w1 (.cells #[.map (some r1), .map (some r2)] 74)).drew) hM1.lt)
            go_wp2_with fail
            refine wp_region_held_drew (S := fun w' => Below w.heap.size w w' ∧ w'.cell? ⟨w1.heap.size, 0, none⟩ = some (.map (some r1)) ∧ w'.cell? ⟨w1.heap.size, 1, none⟩ = some (.map (some r2))) (by kernel_rfl) ?_ (fun hHeld => ?_)
            · exact ⟨(hbw1.alloc hbw1.size _).drew, cell_new rfl rfl, cell_new rfl rfl⟩
            refine wpAnyH_take (i := 0) (v := ?vbU2_0) rfl (by kernel_rfl) (by kernel_rfl) (by kernel_rfl) (fun _ _ _ h => h) (Or.inl ⟨rfl, ?ybU2_0⟩) (by assumption) ?_
            case ybU2_0 => (intro w hSw; (try dsimp only at hSw); go_simp; first | done | with_reducible rfl)
            simp only [List.getElem_toArray, List.getElem_cons_succ, List.getElem_cons_zero, Act.put, List.setIfInBounds_toArray, List.set_cons_zero, List.set_cons_succ]
            refine wpAnyH_take (i := 1) (v := ?vbU2_1) rfl (by kernel_rfl) (by kernel_rfl) (by kernel_rfl) (fun _ _ _ h => h) (Or.inl ⟨rfl, ?ybU2_1⟩) (by assumption) ?_
            case ybU2_1 => (intro w hSw; (try dsimp only at hSw); go_simp; first | done | with_reducible rfl)
            simp only [List.getElem_toArray, List.getElem_cons_succ, List.getElem_cons_zero, Act.put, List.setIfInBounds_toArray, List.set_cons_zero, List.set_cons_succ]
            refine wpAnyH_take (i := 2) (v := ?vbU2_2) rfl (by kernel_rfl) (by kernel_rfl) (by kernel_rfl) (fun _ _ _ h => h) (Or.inl ⟨rfl, ?ybU2_2⟩) (by assumption) ?_
            case ybU2_2 => (intro w hSw; (try dsimp only at hSw); go_simp; first | done | with_reducible rfl)
            simp only [List.getElem_toArray, List.getElem_cons_succ, List.getElem_cons_zero, Act.put, List.setIfInBounds_toArray, List.set_cons_zero, List.set_cons_succ]
            refine wpAnyH_take (i := 3) (v := ?vbU2_3) rfl (by kernel_rfl) (by kernel_rfl) (by kernel_rfl) (fun _ _ _ h => h) (Or.inl ⟨rfl, ?ybU2_3⟩) (by assumption) ?_
            case ybU2_3 => (intro w hSw; (try dsimp only at hSw); go_simp; first | done | with_reducible rfl)
            simp only [List.getElem_toArray, List.getElem_cons_succ, List.getElem_cons_zero, Act.put, List.setIfInBounds_toArray, List.set_cons_zero, List.set_cons_succ]
            refine wpAnyH_take (i := 4) (v := ?vbU2_4) rfl (by kernel_rfl) (by kernel_rfl) (by kernel_rfl) (fun _ _ _ h => h) (Or.inl ⟨rfl, ?ybU2_4⟩) (by assumption) ?_
            case ybU2_4 => (intro w hSw; (try dsimp only at hSw); go_simp; first | done | with_reducible rfl)
            simp only [List.getElem_toArray, List.getElem_cons_succ, List.getElem_cons_zero, Act.put, List.setIfInBounds_toArray, List.set_cons_zero, List.set_cons_succ]
            refine wpAnyH_ready (rs := [5]) (by kernel_rfl) (by simp) ?_
            refine AllReadyH.cons rfl (fun K hK => ?_) AllReadyH.nil
            go_simp
            refine (hsee.out r1 r2 _ hM3.out).mono ?_
            rintro e w5 ⟨rfl, hb5⟩
            go_wp2_with fail
            refine hK.out _ _ ?_ (fun hHeld => ?_)
            · exact ⟨hHeld.1.step hb5, cell_step hHeld.2.1 hb5, cell_step hHeld.2.2 hb5⟩
            clear hK K
            try simp only [List.getElem_toArray, List.getElem_cons_succ, List.getElem_cons_zero, Act.put, List.setIfInBounds_toArray, List.set_cons_zero, List.set_cons_succ]
            refine wpAnyH_take (i := 6) (v := ?vbU2_6) rfl (by kernel_rfl) (by kernel_rfl) (by kernel_rfl) (fun _ _ _ h => h) (Or.inl ⟨rfl, ?ybU2_6⟩) (by assumption) ?_
            case ybU2_6 => (intro w hSw; (try dsimp only at hSw); go_simp; first | done | with_reducible rfl)
            simp only [List.getElem_toArray, List.getElem_cons_succ, List.getElem_cons_zero, Act.put, List.setIfInBounds_toArray, List.set_cons_zero, List.set_cons_succ]
            refine wpAnyH_take (i := 7) (v := ?vbU2_7) rfl (by kernel_rfl) (by kernel_rfl) (by kernel_rfl) (fun _ _ _ h => h) (Or.inl ⟨rfl, ?ybU2_7⟩) (by assumption) ?_
            case ybU2_7 => (intro w hSw; (try dsimp only at hSw); go_simp; first | done | with_reducible rfl)
            simp only [List.getElem_toArray, List.getElem_cons_succ, List.getElem_cons_zero, Act.put, List.setIfInBounds_toArray, List.set_cons_zero, List.set_cons_succ]
            refine wpAnyH_take (i := 8) (v := ?vbU2_8) rfl (by kernel_rfl) (by kernel_rfl) (by kernel_rfl) (fun _ _ _ h => h) (Or.inl ⟨rfl, ?ybU2_8⟩) (by assumption) ?_
            case ybU2_8 => (intro w hSw; (try dsimp only at hSw); go_simp; first | done | with_reducible rfl)
            simp only [List.getElem_toArray, List.getElem_cons_succ, List.getElem_cons_zero, Act.put, List.setIfInBounds_toArray, List.set_cons_zero, List.set_cons_succ]
            refine wpAnyH_take (i := 9) (v := ?vbU2_9) rfl (by kernel_rfl) (by kernel_rfl) (by kernel_rfl) (fun _ _ _ h => h) (Or.inl ⟨rfl, ?ybU2_9⟩) (by assumption) ?_
            case ybU2_9 => (intro w hSw; (try dsimp only at hSw); go_simp; first | done | with_reducible rfl)
            simp only [List.getElem_toArray, List.getElem_cons_succ, List.getElem_cons_zero, Act.put, List.setIfInBounds_toArray, List.set_cons_zero, List.set_cons_succ]
            refine wpAnyH_take (i := 10) (v := ?vbU2_10) rfl (by kernel_rfl) (by kernel_rfl) (by kernel_rfl) (fun _ _ _ h => h) (Or.inl ⟨rfl, ?ybU2_10⟩) (by assumption) ?_
            case ybU2_10 => (intro w hSw; (try dsimp only at hSw); go_simp; first | done | with_reducible rfl)
            simp only [List.getElem_toArray, List.getElem_cons_succ, List.getElem_cons_zero, Act.put, List.setIfInBounds_toArray, List.set_cons_zero, List.set_cons_succ]
            refine wpAnyH_done (by kernel_rfl) ?_ _
            have hbf := Lib.hid hHeld.1
            clear hHeld hM1 hM2
            go_wp2
            go_ret2
            exact ⟨ret12_p hres2.out, hbf.out⟩
end Go.Proofs.Ytomnnhmhmehdjaa
