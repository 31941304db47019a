/- The best breaks: the model's table of least badness. -/
import Derived.Test.YtcaojaaooadeaaaLn14
import Derived.Test.YtcaojaaooadeaaaLn8
namespace Go.Proofs.Ytcaojaaooadeaaa
open Go.RowKit Go.ChangeShapes Go.WideShapes Go.Deep
set_option linter.unusedVariables false
set_option linter.unusedSimpArgs false

theorem getD_of9 {l : List Int} {i : Nat} {x : Int} (h : l[i]? = some x) : l.getD i 0 = x := by simp [List.getD, h]
theorem OInts.put9 {w : World} {base g n i : Nat} {ps : List Int} (x : Int) (h : OInts w base (some ⟨g, 0, none⟩) n ps) (hi : i < n) : OInts (w.setCell ⟨g, i, none⟩ (.int .i64 x)) base (some ⟨g, 0, none⟩) n (ps.set i x) := by
  rcases h with ⟨hl, ⟨h0, _⟩ | ⟨g', m, f, h1, hb, hr, hm, hf⟩⟩
  · cases h0
  · cases h1
    refine ⟨by simp [hl], .inr ⟨g, m, _, rfl, hb, hr.set i _, hm, fun j y hy q u hu => ?_⟩⟩
    have hj : j < n := by have := (List.getElem?_eq_some_iff.1 hy).1; simpa [hl] using this
    match q, hu with
    | 0, hu =>
      simp [intC] at hu
      subst hu
      refine ⟨by omega, ?_⟩
      by_cases hij : i = j
      · subst hij
        rw [List.getElem?_set_self (by omega)] at hy
        cases hy
        simp
      · rw [List.getElem?_set_ne hij] at hy
        have := (hf j y hy 0 _ rfl).2
        simp only [Nat.mul_one, Nat.add_zero] at this ⊢
        rw [if_neg (fun h => hij h.symm)]
        exact this
    | q + 1, hu => simp [intC] at hu
theorem OInts.parts9 {w : World} {base g n i : Nat} {ps : List Int} (h : OInts w base (some ⟨g, 0, none⟩) n ps) (hi : i < n) : w.cell? ⟨g, i, none⟩ = some (.int .i64 (ps.getD i 0)) ∧ w.frozen? ⟨g, i, none⟩ = false ∧ g < w.heap.size ∧ base ≤ g := by
  rcases h with ⟨hl, ⟨h0, _⟩ | ⟨g', m, f, h1, hb, hr, hm, hf⟩⟩
  · cases h0
  · cases h1
    have hx : ps[i]? = some ps[i] := List.getElem?_eq_getElem (by omega)
    obtain ⟨h2, h3⟩ := hf i _ hx 0 _ rfl
    rw [Nat.mul_one, Nat.add_zero] at h2 h3
    have h4 := hr.cell (i := i) h2
    rw [h3] at h4
    exact ⟨by rw [getD_of9 hx]; exact h4, hr.frozen i, hr.lt, hb⟩
theorem OInts.zeros9 (w : World) (n : Nat) : OInts (w.alloc (.cells (madeCells #[.int .i64 0] n) 2)) w.heap.size (some ⟨w.heap.size, 0, none⟩) n (List.replicate n 0) := by
  have hr := World.rowIs_made w (.int .i64 0) n 2
  refine ⟨by simp, .inr ⟨w.heap.size, n, _, rfl, Nat.le_refl _, hr, by omega, fun i x hx j u hu => ?_⟩⟩
  obtain ⟨h1, h2⟩ := List.getElem?_eq_some_iff.1 hx
  rw [List.getElem_replicate] at h2
  subst h2
  simp at h1
  match j, hu with
  | 0, hu => cases hu; exact ⟨by omega, rfl⟩
  | j + 1, hu => simp [intC] at hu
theorem set_same9 {l : List Int} {i : Nat} {x : Int} (h : i < l.length) : (l.set i x).getD i 0 = x := by
  rw [List.getD, List.getElem?_set_self h]; rfl
theorem set_other9 {l : List Int} {i j : Nat} {x : Int} (h : i ≠ j) : (l.set i x).getD j 0 = l.getD j 0 := by
  rw [List.getD, List.getElem?_set_ne h]; rfl
/-- The course of the inner loop at word p. -/
structure CurE (W : Nat) (ws : List ByteArray) (p K : Nat) (cur : Nat → Int) : Prop where
  lo : p + 1 ≤ K
  hi : K ≤ ws.length
  start : cur (p + 1) = if ws.length ≤ p + fitI W ws p then 0 else -1
  fits : ∀ k, p + 1 ≤ k → k < K → k ≤ p + fitI W ws p
  neg : ∀ k, p + 1 ≤ k → k < K → cur k < 0 → cur (k + 1) = costE W ws p k
  less : ∀ k, p + 1 ≤ k → k < K → 0 ≤ cur k → costE W ws p k < cur k → cur (k + 1) = costE W ws p k
  more : ∀ k, p + 1 ≤ k → k < K → 0 ≤ cur k → ¬ costE W ws p k < cur k → cur (k + 1) = cur k
  stop : K = ws.length ∨ p + fitI W ws p < K
  last : cur K = (endE W ws p).1
  range : ∀ k, p + 1 ≤ k → k ≤ K → -1 ≤ cur k ∧ cur k ≤ 6400000
theorem cost_range {W : Nat} {ws : List ByteArray} (hW : W ≤ 80) (hs : ∀ x ∈ ws, x.size ≤ W) (hn : ws.length ≤ 900) {p k : Nat} (h1 : p ≤ k) (h2 : k ≤ ws.length) (hf : k ≤ p + fitI W ws p) : 0 ≤ costE W ws p k ∧ costE W ws p k ≤ 6400 + 6400000 := by
  have h3 := end_le hW hs hn k
  have hl := (fitI_iff (W := W) (ws := ws) (i := p) (k := k) h1 h2).2 hf
  have := sq80 hW hl
  unfold costE sqW
  omega
theorem cur_E {W : Nat} {ws : List ByteArray} (hW : W ≤ 80) (hs : ∀ x ∈ ws, x.size ≤ W) (hn : ws.length ≤ 900) {p : Nat} (hp : p < ws.length) : ∃ K cur, CurE W ws p K cur := by
  by_cases hf : ws.length ≤ p + fitI W ws p
  · refine ⟨ws.length, fun _ => 0, by omega, Nat.le_refl _, by rw [if_pos hf], fun k _ h2 => by omega, fun k _ _ h => absurd h (by decide), fun k h1 h2 _ h => ?_, fun _ _ _ _ _ => rfl, .inl rfl, by rw [end_all hf], fun _ _ _ => by decide⟩
    have := cost_range hW hs hn (show p ≤ k by omega) (show k ≤ ws.length by omega) (by omega)
    omega
  · obtain ⟨h1, hlt, hc, hsc, j, j1, j2, j3, _⟩ := step_E hW hs hn (show p + fitI W ws p < ws.length by omega)
    have hle := fitI_le W ws p
    let cur : Nat → Int := fun k => if k = p + 1 then -1 else (scanE (costE W ws p) (k - (p + 1)) (p + 1) (BIG, p + fitI W ws p)).1
    have hone : (scanE (costE W ws p) 1 (p + 1) (BIG, p + fitI W ws p)) = (costE W ws p (p + 1), p + 1) := by
      rw [scanE, scanE, if_pos (by have := hc (p + 1) (Nat.le_refl _) (by omega); show costE W ws p (p + 1) < BIG; unfold BIG; omega)]
    have hsn : ∀ k, p + 2 ≤ k → cur k = (scanE (costE W ws p) (k - (p + 1)) (p + 1) (BIG, p + fitI W ws p)).1 := fun k hk => if_neg (by omega)
    have hst : ∀ k, p + 2 ≤ k → cur (k + 1) = if costE W ws p k < cur k then costE W ws p k else cur k := fun k hk => by
      rw [hsn k hk, hsn (k + 1) (by omega), show k + 1 - (p + 1) = (k - (p + 1)) + 1 by omega, scan_snoc, show p + 1 + (k - (p + 1)) = k by omega]
      split <;> rfl
    have hcr : ∀ d, p + 2 + d ≤ p + fitI W ws p + 1 → 0 ≤ cur (p + 2 + d) ∧ cur (p + 2 + d) ≤ 6400000 := fun d => by
      induction d with
      | zero =>
        intro h
        rw [Nat.add_zero, hsn _ (Nat.le_refl _), show p + 2 - (p + 1) = 1 by omega, hone]
        exact hc (p + 1) (Nat.le_refl _) (by omega)
      | succ d ih =>
        intro h
        have ih := ih (by omega)
        rw [show p + 2 + (d + 1) = (p + 2 + d) + 1 by omega, hst _ (by omega)]
        have := hc (p + 2 + d) (by omega) (by omega)
        split
        · exact this
        · exact ih
    have hc0 : cur (p + 1) = -1 := if_pos rfl
    refine ⟨p + fitI W ws p + 1, cur, by omega, by omega, by rw [hc0, if_neg hf], fun k _ h2 => by omega, fun k k1 k2 h => ?_, fun k k1 k2 h h3 => ?_, fun k k1 k2 h h3 => ?_, .inr (by omega), ?_, fun k k1 k2 => ?_⟩
    · by_cases hk : k = p + 1
      · rw [hk, hsn _ (by omega), show p + 1 + 1 - (p + 1) = 1 by omega, hone]
      · have := hcr (k - (p + 2)) (by omega)
        rw [show p + 2 + (k - (p + 2)) = k by omega] at this
        omega
    · have hk : k ≠ p + 1 := fun e => by rw [e, hc0] at h; omega
      rw [hst k (by omega), if_pos h3]
    · have hk : k ≠ p + 1 := fun e => by rw [e, hc0] at h; omega
      rw [hst k (by omega), if_neg h3]
    · rw [hsc, hsn _ (by omega), show p + fitI W ws p + 1 - (p + 1) = fitI W ws p by omega]
    · by_cases hk : k = p + 1
      · rw [hk, hc0]; decide
      · have := hcr (k - (p + 2)) (by omega)
        rw [show p + 2 + (k - (p + 2)) = k by omega] at this
        omega

/-- The model's table. -/
def BadOut (W : Nat) (ws : List ByteArray) (n : Nat) (w : World) (e : Ending) (w' : World) : Prop :=
  ∃ L, e = .returned (.slice (some ⟨w.heap.size, 0, none⟩) (n + 1) (n + 1)) ∧ OInts w' w.heap.size (some ⟨w.heap.size, 0, none⟩) (n + 1) L ∧ (∀ j, j ≤ n → L.getD j 0 = (endE W ws j).1) ∧ Below w.heap.size w w'
set_option maxRecDepth 100000 in
set_option maxHeartbeats 6400000 in
theorem bad9_spec (A : Option Addr) (n c : Nat) (ws : List ByteArray) (W : Nat) (hW : W ≤ 80) (hn : n ≤ 900) (hc : n ≤ c) (hs : ∀ x ∈ ws, x.size ≤ W) (w : World) (h : Strs w A n ws) :
    Calls Try.prog 50 #[.slice A n c, .int .i64 (W : Int)] w (BadOut W ws n w) := by
  have hl := Lib.hid h.1
  have hs0 := Lib.hid hs
  have hcur := Lib.hid (fun p (hp : p < n) => cur_E hW hs (by rw [hl.out]; exact hn) (p := p) (by rw [hl.out]; exact hp))
  have hcr := Lib.hid (fun p k h1 h2 hf => cost_range hW hs (by rw [hl.out]; exact hn) (p := p) (k := k) h1 h2 hf)
  have her := Lib.hid (fun k => end_le hW hs (by rw [hl.out]; exact hn) k)
  have hen : Hid ((endE W ws n).1 = 0) := Lib.hid (by rw [end_all (by rw [hl.out]; omega)])
  have hfi := Lib.hid (fun p k (h1 : p ≤ k) (h2 : k ≤ ws.length) => fitI_iff (W := W) (ws := ws) h1 h2)
  obtain ⟨i0, hi, hz0, hz1, hz2⟩ := info_parts Try.infoI64
  have hmk := fun W => run_make_many (P := Try.prog) 27 2 i0 _ Try.underlying27 hi hz0 .i64 .i64 (n + 1) (by rw [hz2]; omega) (by omega) W
  rw [hz1] at hmk
  have hmk2 := hmk
  simp only [Int.natCast_add, Int.cast_ofNat_Int, Int.natCast_one] at hmk2
  have hw0 : IntKind.i64.wrap ((n : Int) + 1) = ((n + 1 : Nat) : Int) := by rw [IntWalk.i64_in _ (by omega)]; omega
  have hw1 : IntKind.i64.wrap ((n : Int) - 1) = (n : Int) - 1 := IntWalk.i64_in _ (by omega)
  clear hs
  go_enter Try.func50, Try.ntmps50
  go_wp2
  go_loopw [7, 8, 9] (fun i _ _ wr => ∃ (q : Nat) (I : Int) (L : List Int), q ≤ n ∧ i = .int .i64 I ∧ I = (q : Int) - 1 ∧ OInts wr w.heap.size (some ⟨w.heap.size, 0, none⟩) (n + 1) L ∧ (∀ j, q ≤ j → j ≤ n → L.getD j 0 = (endE W ws j).1) ∧ Below w.heap.size w wr) (fun i _ _ _ => (intOf i + 1).toNat)
  case atStart =>
    refine ⟨n, _, List.replicate (n + 1) 0, Nat.le_refl _, rfl, rfl, OInts.zeros9 w (n + 1), fun j h1 h2 => ?_, below_a1 _ _⟩
    rw [show j = n by omega, hen.out, List.getD, List.getElem?_replicate]
    split <;> rfl
  case round =>
    rename World => wr
    obtain ⟨q, I, L, hq, rfl, hI, hO, hL, hbw⟩ := hrel
    have hwz := hbw.size
    replace hL := Lib.hid hL
    by_cases hq0 : q = 0
    · have hneg : ¬ (0 : Int) ≤ I := by omega
      go_wp2
      go_ret
      exact ⟨L, rfl, hO, fun j hj => hL.out j (by omega) hj, hbw⟩
    · obtain ⟨p, rfl⟩ : ∃ p, q = p + 1 := ⟨q - 1, by omega⟩
      obtain rfl : I = (p : Int) := by omega
      clear hI hq0
      have hpos : (0 : Int) ≤ (p : Int) := Int.natCast_nonneg _
      have hpn : p < n := by omega
      have hLl : L.length = n + 1 := hO.1
      obtain ⟨q0, q1, q2, q3⟩ := hO.parts9 (i := p) (by omega)
      have hpi : (p : Int) < ((n + 1 : Nat) : Int) := by omega
      have hpi2 : (p : Int) < (n : Int) + 1 := by omega
      have hO1 := hO.put9 (-1) (i := p) (by omega)
      have hbw1 := hbw.setCell (p := ⟨w.heap.size, p, none⟩) (Nat.le_refl _) (.int .i64 (-1))
      have hpc : (p : Int) ≤ (c : Int) := by omega
      have hpn2 : (p : Int) ≤ (n : Int) := by omega
      have hpcn : ¬ c = p := by omega
      obtain ⟨b, off, rfl, hb, hV⟩ := view9 (h.below hbw1) (a := p) (e := n) hpn (Nat.le_refl _)
      rw [List.take_of_length_le (by rw [List.length_drop, hl.out]; omega)] at hV
      have hSw := h
      have hlong := Lib.hid (long9_spec _ (n - p) (c - p) (ws.drop p) (by omega) (fun x hx => by have := hs0.out x (List.mem_of_mem_drop hx); omega) rfl _ hV)
      have hfn := hfi.out p n (by omega) (by rw [hl.out]; exact Nat.le_refl _)
      rw [lineW, show (ws.drop p).take (n - p) = ws.drop p from List.take_of_length_le (by rw [List.length_drop, hl.out]; omega)] at hfn
      obtain ⟨K, cur, hC⟩ := hcur.out p hpn
      have hKn : K ≤ n := by have := hC.hi; rw [hl.out] at this; exact this
      have hst := hC.start
      rw [hl.out] at hst
      have hC0 := Lib.hid hC
      have hwp : IntKind.i64.wrap ((p : Int) + 1) = ((p + 1 : Nat) : Int) := by rw [IntWalk.i64_in _ (by omega)]; omega
      have hwpm : IntKind.i64.wrap ((p : Int) - 1) = (p : Int) - 1 := IntWalk.i64_in _ (by omega)
      generalize longN (ws.drop p) = LN at *
      replace hfn := Lib.hid hfn
      by_cases hfit : LN ≤ W
      · have hcs : cur (p + 1) = 0 := by rw [hst, if_pos (hfn.out.1 hfit)]
        have g1 : decide ((LN : Int) ≤ (W : Int)) = true := decide_eq_true (by omega)
        have g2 : decide (LN ≤ W) = true := decide_eq_true hfit
        obtain ⟨r0, r1, r2, r3⟩ := hO1.parts9 (i := p) (by omega)
        have hO2 := hO1.put9 0 (i := p) (by omega)
        rw [List.set_set] at hO2
        have hbw2 := hbw1.setCell (p := ⟨w.heap.size, p, none⟩) (Nat.le_refl _) (.int .i64 0)
        clear hC hst
        replace hcs := Lib.hid hcs
        go_wp2_with fail
        refine hlong.out.mono ?_
        rintro e w' ⟨rfl, rfl⟩
        go_wp2
        go_loopw [8, 9] (fun kk _ wi => ∃ k : Nat, p + 1 ≤ k ∧ k ≤ K ∧ kk = .int .i64 (k : Int) ∧ OInts wi w.heap.size (some ⟨w.heap.size, 0, none⟩) (n + 1) (L.set p (cur k)) ∧ Below w.heap.size w wi) (fun kk _ _ => n + 1 - (intOf kk).toNat)
        case atStart => exact ⟨p + 1, Nat.le_refl _, hC0.out.lo, rfl, by rw [hcs.out]; exact hO2, hbw2⟩
        case round =>
          rename World => wi
          obtain ⟨k, hk1, hkK, rfl, hOk, hbi⟩ := hrel
          clear q0 q1 q2 q3 hO1 hbw1 hV hlong hO2 hbw2
          by_cases hlt : k < K
          · have hkn : k < n := by omega
            have hkf := hC0.out.fits k hk1 hlt
            obtain ⟨b9, off9, e9, _, hVk⟩ := view9 (hSw.below hbi) (a := p) (e := k) (by omega) (by omega)
            cases e9
            have hlk := Lib.hid (long9_spec _ (k - p) (c - p) ((ws.drop p).take (k - p)) (by omega) (fun x hx => by have := hs0.out x (List.mem_of_mem_drop (List.mem_of_mem_take hx)); omega) rfl _ hVk)
            have hfk := (hfi.out p k (by omega) (by rw [hl.out]; omega)).2 hkf
            obtain ⟨cr0, cr1⟩ := hcr.out p k (by omega) (by rw [hl.out]; omega) hkf
            obtain ⟨er0, er1⟩ := her.out k
            obtain ⟨cu0, cu1⟩ := hC0.out.range k hk1 hkK
            have hcE : costE W ws p k = ((W : Int) - (longN (lineW ws (p, k)) : Int)) * ((W : Int) - (longN (lineW ws (p, k)) : Int)) + (endE W ws k).1 := rfl
            rw [show lineW ws (p, k) = (ws.drop p).take (k - p) from rfl] at hcE hfk
            obtain ⟨s0, s1⟩ := sq80 hW hfk
            generalize longN ((ws.drop p).take (k - p)) = LK at *
            obtain ⟨X, hX⟩ : ∃ X, (W : Int) - (LK : Int) = X := ⟨_, rfl⟩
            have hx1 : IntKind.i64.wrap ((W : Int) - (LK : Int)) = X := by rw [hX]; exact IntWalk.i64_in _ (by omega)
            rw [hX] at hcE s0 s1
            obtain ⟨Z, hZ⟩ : ∃ Z, X * X = Z := ⟨_, rfl⟩
            have hx2 : IntKind.i64.wrap (X * X) = Z := by rw [hZ]; exact IntWalk.i64_in _ (by omega)
            rw [hZ] at hcE s0 s1
            obtain ⟨E, hE⟩ : ∃ E, (endE W ws k).1 = E := ⟨_, rfl⟩
            obtain ⟨C, hCC⟩ : ∃ C, costE W ws p k = C := ⟨_, rfl⟩
            rw [hE] at hcE er0 er1
            rw [hCC] at hcE cr0 cr1
            have hx3 : IntKind.i64.wrap (E + Z) = C := by rw [IntWalk.i64_in _ (by omega)]; omega
            have h1k := hC0.out.neg k hk1 hlt
            have h2k := hC0.out.less k hk1 hlt
            have h3k := hC0.out.more k hk1 hlt
            rw [hCC] at h1k h2k h3k
            obtain ⟨t0, t1, t2, t3⟩ := hOk.parts9 (i := p) (by omega)
            obtain ⟨u0, _, _, _⟩ := hOk.parts9 (i := k) (by omega)
            rw [set_same9 (by omega)] at t0
            rw [set_other9 (by omega), hL.out k (by omega) (by omega), hE] at u0
            have hOn : Hid (∀ v, OInts (wi.setCell ⟨w.heap.size, p, none⟩ (.int .i64 v)) w.heap.size (some ⟨w.heap.size, 0, none⟩) (n + 1) (L.set p v)) := Lib.hid (fun v => by have := hOk.put9 v (i := p) (by omega); rwa [List.set_set] at this)
            have hbn : Hid (∀ v, Below w.heap.size w (wi.setCell ⟨w.heap.size, p, none⟩ (.int .i64 v))) := Lib.hid (fun v => hbi.setCell (p := ⟨w.heap.size, p, none⟩) (Nat.le_refl _) (.int .i64 v))
            have hOs := Lib.hid hOk
            have k1 : (k : Int) < (n : Int) := by omega
            have k2 : decide (LK ≤ W) = true := decide_eq_true hfk
            have k3 : decide ((LK : Int) ≤ (W : Int)) = true := decide_eq_true (by omega)
            have k4 : (k : Int) ≤ (c : Int) := by omega
            have k5 : (p : Int) ≤ (k : Int) := by omega
            have k6 : (0 : Int) ≤ (k : Int) := Int.natCast_nonneg _
            have k7 : (k : Int) < (n : Int) + 1 := by omega
            have hwk : IntKind.i64.wrap ((k : Int) + 1) = ((k + 1 : Nat) : Int) := by rw [IntWalk.i64_in _ (by omega)]; omega
            replace hX := Lib.hid hX
            replace hZ := Lib.hid hZ
            replace hE := Lib.hid hE
            replace hcE := Lib.hid hcE
            replace hCC := Lib.hid hCC
            replace h1k := Lib.hid h1k
            replace h2k := Lib.hid h2k
            replace h3k := Lib.hid h3k
            obtain ⟨V, hVv⟩ : ∃ V, cur k = V := ⟨_, rfl⟩
            rw [hVv] at t0 cu0 cu1 h1k h2k h3k
            clear hOk hVk hfk s0 s1 cr0 cr1 er0 er1
            go_wp2_with fail
            refine hlk.out.mono ?_
            rintro e w' ⟨rfl, rfl⟩
            go_wp2_with fail
            refine hlk.out.mono ?_
            rintro e w' ⟨rfl, rfl⟩
            by_cases hneg : V < 0
            · have g5 : decide (V < 0) = true := decide_eq_true hneg
              have hnx : Hid (cur (k + 1) = C) := Lib.hid (h1k.out hneg)
              replace hneg := Lib.hid hneg
              clear hlk
              go_wp2_with fail
              refine wp_region_held_drew (S := fun w' => w'.cell? ⟨w.heap.size, p, none⟩ = some (.int .i64 V) ∧ w'.cell? ⟨w.heap.size, k, none⟩ = some (.int .i64 E)) (by kernel_rfl) ?_ (fun hHeld => ?_)
              · exact ⟨t0, u0⟩
              refine wpAnyH_take (i := 0) (v := ?vaU1_0) rfl (by kernel_rfl) (by kernel_rfl) (by kernel_rfl) (fun _ _ _ h => h) (Or.inl ⟨rfl, ?yaU1_0⟩) (by assumption) ?_
              case yaU1_0 => (intro w hSw; (try dsimp only at hSw); go_simp; first | done | with_reducible rfl)
              simp only [List.getElem_toArray, List.getElem_cons_succ, List.getElem_cons_zero, Act.put, List.setIfInBounds_toArray, List.set_cons_zero, List.set_cons_succ]
              refine wpAnyH_take (i := 1) (v := ?vaU1_1) rfl (by kernel_rfl) (by kernel_rfl) (by kernel_rfl) (fun _ _ _ h => h) (Or.inl ⟨rfl, ?yaU1_1⟩) (by assumption) ?_
              case yaU1_1 => (intro w hSw; (try dsimp only at hSw); go_simp; first | done | with_reducible rfl)
              simp only [List.getElem_toArray, List.getElem_cons_succ, List.getElem_cons_zero, Act.put, List.setIfInBounds_toArray, List.set_cons_zero, List.set_cons_succ]
              refine wpAnyH_take (i := 2) (v := ?vaU1_2) rfl (by kernel_rfl) (by kernel_rfl) (by kernel_rfl) (fun _ _ _ h => h) (Or.inl ⟨rfl, ?yaU1_2⟩) (by assumption) ?_
              case yaU1_2 => (intro w hSw; (try dsimp only at hSw); go_simp; first | done | with_reducible rfl)
              simp only [List.getElem_toArray, List.getElem_cons_succ, List.getElem_cons_zero, Act.put, List.setIfInBounds_toArray, List.set_cons_zero, List.set_cons_succ]
              refine wpAnyH_take (i := 3) (v := ?vaU1_3) rfl (by kernel_rfl) (by kernel_rfl) (by kernel_rfl) (fun _ _ _ h => h) (Or.inl ⟨rfl, ?yaU1_3⟩) (by assumption) ?_
              case yaU1_3 => (intro w hSw; (try dsimp only at hSw); go_simp; first | done | with_reducible rfl)
              simp only [List.getElem_toArray, List.getElem_cons_succ, List.getElem_cons_zero, Act.put, List.setIfInBounds_toArray, List.set_cons_zero, List.set_cons_succ]
              refine wpAnyH_take (i := 4) (v := ?vaU1_4) rfl (by kernel_rfl) (by kernel_rfl) (by kernel_rfl) (fun _ _ _ h => h) (Or.inl ⟨rfl, ?yaU1_4⟩) (by assumption) ?_
              case yaU1_4 => (intro w hSw; (try dsimp only at hSw); go_simp; first | done | with_reducible rfl)
              simp only [List.getElem_toArray, List.getElem_cons_succ, List.getElem_cons_zero, Act.put, List.setIfInBounds_toArray, List.set_cons_zero, List.set_cons_succ]
              refine wpAnyH_take (i := 5) (v := ?vaU1_5) rfl (by kernel_rfl) (by kernel_rfl) (by kernel_rfl) (fun _ _ _ h => h) (Or.inl ⟨rfl, ?yaU1_5⟩) (by assumption) ?_
              case yaU1_5 => (intro w hSw; (try dsimp only at hSw); go_simp; first | done | with_reducible rfl)
              simp only [List.getElem_toArray, List.getElem_cons_succ, List.getElem_cons_zero, Act.put, List.setIfInBounds_toArray, List.set_cons_zero, List.set_cons_succ]
              refine wpAnyH_take (i := 6) (v := undef) rfl (by kernel_rfl) (by kernel_rfl) (by kernel_rfl) (fun _ _ _ h => h) (Or.inr ⟨rfl, rfl⟩) (by assumption) ?_
              simp only [List.getElem_toArray, List.getElem_cons_succ, List.getElem_cons_zero, Act.put, List.setIfInBounds_toArray, List.set_cons_zero, List.set_cons_succ]
              refine wpAnyH_take (i := 7) (v := undef) rfl (by kernel_rfl) (by kernel_rfl) (by kernel_rfl) (fun _ _ _ h => h) (Or.inr ⟨rfl, rfl⟩) (by assumption) ?_
              simp only [List.getElem_toArray, List.getElem_cons_succ, List.getElem_cons_zero, Act.put, List.setIfInBounds_toArray, List.set_cons_zero, List.set_cons_succ]
              refine wpAnyH_take (i := 8) (v := undef) rfl (by kernel_rfl) (by kernel_rfl) (by kernel_rfl) (fun _ _ _ h => h) (Or.inr ⟨rfl, rfl⟩) (by assumption) ?_
              simp only [List.getElem_toArray, List.getElem_cons_succ, List.getElem_cons_zero, Act.put, List.setIfInBounds_toArray, List.set_cons_zero, List.set_cons_succ]
              refine wpAnyH_take (i := 9) (v := undef) rfl (by kernel_rfl) (by kernel_rfl) (by kernel_rfl) (fun _ _ _ h => h) (Or.inr ⟨rfl, rfl⟩) (by assumption) ?_
              simp only [List.getElem_toArray, List.getElem_cons_succ, List.getElem_cons_zero, Act.put, List.setIfInBounds_toArray, List.set_cons_zero, List.set_cons_succ]
              refine wpAnyH_take (i := 10) (v := undef) rfl (by kernel_rfl) (by kernel_rfl) (by kernel_rfl) (fun _ _ _ h => h) (Or.inr ⟨rfl, rfl⟩) (by assumption) ?_
              simp only [List.getElem_toArray, List.getElem_cons_succ, List.getElem_cons_zero, Act.put, List.setIfInBounds_toArray, List.set_cons_zero, List.set_cons_succ]
              refine wpAnyH_take (i := 11) (v := undef) rfl (by kernel_rfl) (by kernel_rfl) (by kernel_rfl) (fun _ _ _ h => h) (Or.inr ⟨rfl, rfl⟩) (by assumption) ?_
              simp only [List.getElem_toArray, List.getElem_cons_succ, List.getElem_cons_zero, Act.put, List.setIfInBounds_toArray, List.set_cons_zero, List.set_cons_succ]
              refine wpAnyH_take (i := 12) (v := undef) rfl (by kernel_rfl) (by kernel_rfl) (by kernel_rfl) (fun _ _ _ h => h) (Or.inr ⟨rfl, rfl⟩) (by assumption) ?_
              simp only [List.getElem_toArray, List.getElem_cons_succ, List.getElem_cons_zero, Act.put, List.setIfInBounds_toArray, List.set_cons_zero, List.set_cons_succ]
              refine wpAnyH_take (i := 13) (v := undef) rfl (by kernel_rfl) (by kernel_rfl) (by kernel_rfl) (fun _ _ _ h => h) (Or.inr ⟨rfl, rfl⟩) (by assumption) ?_
              simp only [List.getElem_toArray, List.getElem_cons_succ, List.getElem_cons_zero, Act.put, List.setIfInBounds_toArray, List.set_cons_zero, List.set_cons_succ]
              refine wpAnyH_take (i := 14) (v := undef) rfl (by kernel_rfl) (by kernel_rfl) (by kernel_rfl) (fun _ _ _ h => h) (Or.inr ⟨rfl, rfl⟩) (by assumption) ?_
              simp only [List.getElem_toArray, List.getElem_cons_succ, List.getElem_cons_zero, Act.put, List.setIfInBounds_toArray, List.set_cons_zero, List.set_cons_succ]
              refine wpAnyH_take (i := 15) (v := undef) rfl (by kernel_rfl) (by kernel_rfl) (by kernel_rfl) (fun _ _ _ h => h) (Or.inr ⟨rfl, rfl⟩) (by assumption) ?_
              simp only [List.getElem_toArray, List.getElem_cons_succ, List.getElem_cons_zero, Act.put, List.setIfInBounds_toArray, List.set_cons_zero, List.set_cons_succ]
              refine wpAnyH_take (i := 16) (v := undef) rfl (by kernel_rfl) (by kernel_rfl) (by kernel_rfl) (fun _ _ _ h => h) (Or.inr ⟨rfl, rfl⟩) (by assumption) ?_
              simp only [List.getElem_toArray, List.getElem_cons_succ, List.getElem_cons_zero, Act.put, List.setIfInBounds_toArray, List.set_cons_zero, List.set_cons_succ]
              refine wpAnyH_take (i := 17) (v := undef) rfl (by kernel_rfl) (by kernel_rfl) (by kernel_rfl) (fun _ _ _ h => h) (Or.inr ⟨rfl, rfl⟩) (by assumption) ?_
              simp only [List.getElem_toArray, List.getElem_cons_succ, List.getElem_cons_zero, Act.put, List.setIfInBounds_toArray, List.set_cons_zero, List.set_cons_succ]
              refine wpAnyH_take (i := 18) (v := undef) rfl (by kernel_rfl) (by kernel_rfl) (by kernel_rfl) (fun _ _ _ h => h) (Or.inr ⟨rfl, rfl⟩) (by assumption) ?_
              simp only [List.getElem_toArray, List.getElem_cons_succ, List.getElem_cons_zero, Act.put, List.setIfInBounds_toArray, List.set_cons_zero, List.set_cons_succ]
              refine wpAnyH_take (i := 19) (v := ?vaU1_19) rfl (by kernel_rfl) (by kernel_rfl) (by kernel_rfl) (fun _ _ _ h => h) (Or.inl ⟨rfl, ?yaU1_19⟩) (by assumption) ?_
              case yaU1_19 => (intro w hSw; (try dsimp only at hSw); go_simp; first | done | with_reducible rfl)
              simp only [List.getElem_toArray, List.getElem_cons_succ, List.getElem_cons_zero, Act.put, List.setIfInBounds_toArray, List.set_cons_zero, List.set_cons_succ]
              refine wpAnyH_done (by kernel_rfl) ?_ _
              go_wp2
              go_roundw
              case rel => exact ⟨k + 1, by omega, by omega, by go_num, by rw [hnx.out]; exact hOn.out C, (hbn.out C).drew⟩
              case measure => simp [intOf]; omega
            · have g5 : decide (V < 0) = false := decide_eq_false hneg
              by_cases hls : C < V
              · have g6 : decide (C < V) = true := decide_eq_true hls
                have hnx : Hid (cur (k + 1) = C) := Lib.hid (h2k.out (by omega) hls)
                replace hneg := Lib.hid hneg
                replace hls := Lib.hid hls
                clear hlk
                go_wp2_with fail
                refine wp_region_held_drew (S := fun w' => w'.cell? ⟨w.heap.size, p, none⟩ = some (.int .i64 V) ∧ w'.cell? ⟨w.heap.size, k, none⟩ = some (.int .i64 E)) (by kernel_rfl) ?_ (fun hHeld => ?_)
                · exact ⟨t0, u0⟩
                refine wpAnyH_take (i := 0) (v := ?vbU2_0) rfl (by kernel_rfl) (by kernel_rfl) (by kernel_rfl) (fun _ _ _ h => h) (Or.inl ⟨rfl, ?ybU2_0⟩) (by assumption) ?_
                case ybU2_0 => (intro w hSw; (try dsimp only at hSw); go_simp; first | done | with_reducible rfl)
                simp only [List.getElem_toArray, List.getElem_cons_succ, List.getElem_cons_zero, Act.put, List.setIfInBounds_toArray, List.set_cons_zero, List.set_cons_succ]
                refine wpAnyH_take (i := 1) (v := ?vbU2_1) rfl (by kernel_rfl) (by kernel_rfl) (by kernel_rfl) (fun _ _ _ h => h) (Or.inl ⟨rfl, ?ybU2_1⟩) (by assumption) ?_
                case ybU2_1 => (intro w hSw; (try dsimp only at hSw); go_simp; first | done | with_reducible rfl)
                simp only [List.getElem_toArray, List.getElem_cons_succ, List.getElem_cons_zero, Act.put, List.setIfInBounds_toArray, List.set_cons_zero, List.set_cons_succ]
                refine wpAnyH_take (i := 2) (v := ?vbU2_2) rfl (by kernel_rfl) (by kernel_rfl) (by kernel_rfl) (fun _ _ _ h => h) (Or.inl ⟨rfl, ?ybU2_2⟩) (by assumption) ?_
                case ybU2_2 => (intro w hSw; (try dsimp only at hSw); go_simp; first | done | with_reducible rfl)
                simp only [List.getElem_toArray, List.getElem_cons_succ, List.getElem_cons_zero, Act.put, List.setIfInBounds_toArray, List.set_cons_zero, List.set_cons_succ]
                refine wpAnyH_take (i := 3) (v := ?vbU2_3) rfl (by kernel_rfl) (by kernel_rfl) (by kernel_rfl) (fun _ _ _ h => h) (Or.inl ⟨rfl, ?ybU2_3⟩) (by assumption) ?_
                case ybU2_3 => (intro w hSw; (try dsimp only at hSw); go_simp; first | done | with_reducible rfl)
                simp only [List.getElem_toArray, List.getElem_cons_succ, List.getElem_cons_zero, Act.put, List.setIfInBounds_toArray, List.set_cons_zero, List.set_cons_succ]
                refine wpAnyH_take (i := 4) (v := ?vbU2_4) rfl (by kernel_rfl) (by kernel_rfl) (by kernel_rfl) (fun _ _ _ h => h) (Or.inl ⟨rfl, ?ybU2_4⟩) (by assumption) ?_
                case ybU2_4 => (intro w hSw; (try dsimp only at hSw); go_simp; first | done | with_reducible rfl)
                simp only [List.getElem_toArray, List.getElem_cons_succ, List.getElem_cons_zero, Act.put, List.setIfInBounds_toArray, List.set_cons_zero, List.set_cons_succ]
                refine wpAnyH_take (i := 5) (v := ?vbU2_5) rfl (by kernel_rfl) (by kernel_rfl) (by kernel_rfl) (fun _ _ _ h => h) (Or.inl ⟨rfl, ?ybU2_5⟩) (by assumption) ?_
                case ybU2_5 => (intro w hSw; (try dsimp only at hSw); go_simp; first | done | with_reducible rfl)
                simp only [List.getElem_toArray, List.getElem_cons_succ, List.getElem_cons_zero, Act.put, List.setIfInBounds_toArray, List.set_cons_zero, List.set_cons_succ]
                refine wpAnyH_take (i := 6) (v := ?vbU2_6) rfl (by kernel_rfl) (by kernel_rfl) (by kernel_rfl) (fun _ _ _ h => h) (Or.inl ⟨rfl, ?ybU2_6⟩) (by assumption) ?_
                case ybU2_6 => (intro w hSw; (try dsimp only at hSw); go_simp; first | done | with_reducible rfl)
                simp only [List.getElem_toArray, List.getElem_cons_succ, List.getElem_cons_zero, Act.put, List.setIfInBounds_toArray, List.set_cons_zero, List.set_cons_succ]
                refine wpAnyH_take (i := 7) (v := ?vbU2_7) rfl (by kernel_rfl) (by kernel_rfl) (by kernel_rfl) (fun _ _ _ h => h) (Or.inl ⟨rfl, ?ybU2_7⟩) (by assumption) ?_
                case ybU2_7 => (intro w hSw; (try dsimp only at hSw); go_simp; first | done | with_reducible rfl)
                simp only [List.getElem_toArray, List.getElem_cons_succ, List.getElem_cons_zero, Act.put, List.setIfInBounds_toArray, List.set_cons_zero, List.set_cons_succ]
                refine wpAnyH_take (i := 8) (v := ?vbU2_8) rfl (by kernel_rfl) (by kernel_rfl) (by kernel_rfl) (fun _ _ _ h => h) (Or.inl ⟨rfl, ?ybU2_8⟩) (by assumption) ?_
                case ybU2_8 => (intro w hSw; (try dsimp only at hSw); go_simp; first | done | with_reducible rfl)
                simp only [List.getElem_toArray, List.getElem_cons_succ, List.getElem_cons_zero, Act.put, List.setIfInBounds_toArray, List.set_cons_zero, List.set_cons_succ]
                refine wpAnyH_take (i := 9) (v := ?vbU2_9) rfl (by kernel_rfl) (by kernel_rfl) (by kernel_rfl) (fun _ _ _ h => h) (Or.inl ⟨rfl, ?ybU2_9⟩) (by assumption) ?_
                case ybU2_9 => (intro w hSw; (try dsimp only at hSw); go_simp; first | done | with_reducible rfl)
                simp only [List.getElem_toArray, List.getElem_cons_succ, List.getElem_cons_zero, Act.put, List.setIfInBounds_toArray, List.set_cons_zero, List.set_cons_succ]
                refine wpAnyH_take (i := 10) (v := ?vbU2_10) rfl (by kernel_rfl) (by kernel_rfl) (by kernel_rfl) (fun _ _ _ h => h) (Or.inl ⟨rfl, ?ybU2_10⟩) (by assumption) ?_
                case ybU2_10 => (intro w hSw; (try dsimp only at hSw); go_simp; first | done | with_reducible rfl)
                simp only [List.getElem_toArray, List.getElem_cons_succ, List.getElem_cons_zero, Act.put, List.setIfInBounds_toArray, List.set_cons_zero, List.set_cons_succ]
                refine wpAnyH_take (i := 11) (v := ?vbU2_11) rfl (by kernel_rfl) (by kernel_rfl) (by kernel_rfl) (fun _ _ _ h => h) (Or.inl ⟨rfl, ?ybU2_11⟩) (by assumption) ?_
                case ybU2_11 => (intro w hSw; (try dsimp only at hSw); go_simp; first | done | with_reducible rfl)
                simp only [List.getElem_toArray, List.getElem_cons_succ, List.getElem_cons_zero, Act.put, List.setIfInBounds_toArray, List.set_cons_zero, List.set_cons_succ]
                refine wpAnyH_take (i := 12) (v := ?vbU2_12) rfl (by kernel_rfl) (by kernel_rfl) (by kernel_rfl) (fun _ _ _ h => h) (Or.inl ⟨rfl, ?ybU2_12⟩) (by assumption) ?_
                case ybU2_12 => (intro w hSw; (try dsimp only at hSw); go_simp; first | done | with_reducible rfl)
                simp only [List.getElem_toArray, List.getElem_cons_succ, List.getElem_cons_zero, Act.put, List.setIfInBounds_toArray, List.set_cons_zero, List.set_cons_succ]
                refine wpAnyH_take (i := 13) (v := ?vbU2_13) rfl (by kernel_rfl) (by kernel_rfl) (by kernel_rfl) (fun _ _ _ h => h) (Or.inl ⟨rfl, ?ybU2_13⟩) (by assumption) ?_
                case ybU2_13 => (intro w hSw; (try dsimp only at hSw); go_simp; first | done | with_reducible rfl)
                simp only [List.getElem_toArray, List.getElem_cons_succ, List.getElem_cons_zero, Act.put, List.setIfInBounds_toArray, List.set_cons_zero, List.set_cons_succ]
                refine wpAnyH_take (i := 14) (v := ?vbU2_14) rfl (by kernel_rfl) (by kernel_rfl) (by kernel_rfl) (fun _ _ _ h => h) (Or.inl ⟨rfl, ?ybU2_14⟩) (by assumption) ?_
                case ybU2_14 => (intro w hSw; (try dsimp only at hSw); go_simp; first | done | with_reducible rfl)
                simp only [List.getElem_toArray, List.getElem_cons_succ, List.getElem_cons_zero, Act.put, List.setIfInBounds_toArray, List.set_cons_zero, List.set_cons_succ]
                refine wpAnyH_take (i := 15) (v := ?vbU2_15) rfl (by kernel_rfl) (by kernel_rfl) (by kernel_rfl) (fun _ _ _ h => h) (Or.inl ⟨rfl, ?ybU2_15⟩) (by assumption) ?_
                case ybU2_15 => (intro w hSw; (try dsimp only at hSw); go_simp; first | done | with_reducible rfl)
                simp only [List.getElem_toArray, List.getElem_cons_succ, List.getElem_cons_zero, Act.put, List.setIfInBounds_toArray, List.set_cons_zero, List.set_cons_succ]
                refine wpAnyH_take (i := 16) (v := ?vbU2_16) rfl (by kernel_rfl) (by kernel_rfl) (by kernel_rfl) (fun _ _ _ h => h) (Or.inl ⟨rfl, ?ybU2_16⟩) (by assumption) ?_
                case ybU2_16 => (intro w hSw; (try dsimp only at hSw); go_simp; first | done | with_reducible rfl)
                simp only [List.getElem_toArray, List.getElem_cons_succ, List.getElem_cons_zero, Act.put, List.setIfInBounds_toArray, List.set_cons_zero, List.set_cons_succ]
                refine wpAnyH_take (i := 17) (v := ?vbU2_17) rfl (by kernel_rfl) (by kernel_rfl) (by kernel_rfl) (fun _ _ _ h => h) (Or.inl ⟨rfl, ?ybU2_17⟩) (by assumption) ?_
                case ybU2_17 => (intro w hSw; (try dsimp only at hSw); go_simp; first | done | with_reducible rfl)
                simp only [List.getElem_toArray, List.getElem_cons_succ, List.getElem_cons_zero, Act.put, List.setIfInBounds_toArray, List.set_cons_zero, List.set_cons_succ]
                refine wpAnyH_take (i := 18) (v := ?vbU2_18) rfl (by kernel_rfl) (by kernel_rfl) (by kernel_rfl) (fun _ _ _ h => h) (Or.inl ⟨rfl, ?ybU2_18⟩) (by assumption) ?_
                case ybU2_18 => (intro w hSw; (try dsimp only at hSw); go_simp; first | done | with_reducible rfl)
                simp only [List.getElem_toArray, List.getElem_cons_succ, List.getElem_cons_zero, Act.put, List.setIfInBounds_toArray, List.set_cons_zero, List.set_cons_succ]
                refine wpAnyH_take (i := 19) (v := ?vbU2_19) rfl (by kernel_rfl) (by kernel_rfl) (by kernel_rfl) (fun _ _ _ h => h) (Or.inl ⟨rfl, ?ybU2_19⟩) (by assumption) ?_
                case ybU2_19 => (intro w hSw; (try dsimp only at hSw); go_simp; first | done | with_reducible rfl)
                simp only [List.getElem_toArray, List.getElem_cons_succ, List.getElem_cons_zero, Act.put, List.setIfInBounds_toArray, List.set_cons_zero, List.set_cons_succ]
                refine wpAnyH_done (by kernel_rfl) ?_ _
                go_wp2
                go_roundw
                case rel => exact ⟨k + 1, by omega, by omega, by go_num, by rw [hnx.out]; exact hOn.out C, (hbn.out C).drew⟩
                case measure => simp [intOf]; omega
              · have g6 : decide (C < V) = false := decide_eq_false hls
                have hnx : Hid (cur (k + 1) = V) := Lib.hid (h3k.out (by omega) (by omega))
                have hdr := Lib.hid hbi.drew
                have hOd : Hid (OInts wi.drew w.heap.size (some ⟨w.heap.size, 0, none⟩) (n + 1) (L.set p V)) := Lib.hid (by rw [← hVv]; exact hOs.out.below (Below.refl _ _).drew)
                replace hneg := Lib.hid hneg
                replace hls := Lib.hid hls
                clear hlk
                go_wp2_with fail
                refine wp_region_held_drew (S := fun w' => w'.cell? ⟨w.heap.size, p, none⟩ = some (.int .i64 V) ∧ w'.cell? ⟨w.heap.size, k, none⟩ = some (.int .i64 E)) (by kernel_rfl) ?_ (fun hHeld => ?_)
                · exact ⟨t0, u0⟩
                refine wpAnyH_take (i := 0) (v := ?vcU3_0) rfl (by kernel_rfl) (by kernel_rfl) (by kernel_rfl) (fun _ _ _ h => h) (Or.inl ⟨rfl, ?ycU3_0⟩) (by assumption) ?_
                case ycU3_0 => (intro w hSw; (try dsimp only at hSw); go_simp; first | done | with_reducible rfl)
                simp only [List.getElem_toArray, List.getElem_cons_succ, List.getElem_cons_zero, Act.put, List.setIfInBounds_toArray, List.set_cons_zero, List.set_cons_succ]
                refine wpAnyH_take (i := 1) (v := ?vcU3_1) rfl (by kernel_rfl) (by kernel_rfl) (by kernel_rfl) (fun _ _ _ h => h) (Or.inl ⟨rfl, ?ycU3_1⟩) (by assumption) ?_
                case ycU3_1 => (intro w hSw; (try dsimp only at hSw); go_simp; first | done | with_reducible rfl)
                simp only [List.getElem_toArray, List.getElem_cons_succ, List.getElem_cons_zero, Act.put, List.setIfInBounds_toArray, List.set_cons_zero, List.set_cons_succ]
                refine wpAnyH_take (i := 2) (v := ?vcU3_2) rfl (by kernel_rfl) (by kernel_rfl) (by kernel_rfl) (fun _ _ _ h => h) (Or.inl ⟨rfl, ?ycU3_2⟩) (by assumption) ?_
                case ycU3_2 => (intro w hSw; (try dsimp only at hSw); go_simp; first | done | with_reducible rfl)
                simp only [List.getElem_toArray, List.getElem_cons_succ, List.getElem_cons_zero, Act.put, List.setIfInBounds_toArray, List.set_cons_zero, List.set_cons_succ]
                refine wpAnyH_take (i := 3) (v := ?vcU3_3) rfl (by kernel_rfl) (by kernel_rfl) (by kernel_rfl) (fun _ _ _ h => h) (Or.inl ⟨rfl, ?ycU3_3⟩) (by assumption) ?_
                case ycU3_3 => (intro w hSw; (try dsimp only at hSw); go_simp; first | done | with_reducible rfl)
                simp only [List.getElem_toArray, List.getElem_cons_succ, List.getElem_cons_zero, Act.put, List.setIfInBounds_toArray, List.set_cons_zero, List.set_cons_succ]
                refine wpAnyH_take (i := 4) (v := ?vcU3_4) rfl (by kernel_rfl) (by kernel_rfl) (by kernel_rfl) (fun _ _ _ h => h) (Or.inl ⟨rfl, ?ycU3_4⟩) (by assumption) ?_
                case ycU3_4 => (intro w hSw; (try dsimp only at hSw); go_simp; first | done | with_reducible rfl)
                simp only [List.getElem_toArray, List.getElem_cons_succ, List.getElem_cons_zero, Act.put, List.setIfInBounds_toArray, List.set_cons_zero, List.set_cons_succ]
                refine wpAnyH_take (i := 5) (v := ?vcU3_5) rfl (by kernel_rfl) (by kernel_rfl) (by kernel_rfl) (fun _ _ _ h => h) (Or.inl ⟨rfl, ?ycU3_5⟩) (by assumption) ?_
                case ycU3_5 => (intro w hSw; (try dsimp only at hSw); go_simp; first | done | with_reducible rfl)
                simp only [List.getElem_toArray, List.getElem_cons_succ, List.getElem_cons_zero, Act.put, List.setIfInBounds_toArray, List.set_cons_zero, List.set_cons_succ]
                refine wpAnyH_take (i := 6) (v := ?vcU3_6) rfl (by kernel_rfl) (by kernel_rfl) (by kernel_rfl) (fun _ _ _ h => h) (Or.inl ⟨rfl, ?ycU3_6⟩) (by assumption) ?_
                case ycU3_6 => (intro w hSw; (try dsimp only at hSw); go_simp; first | done | with_reducible rfl)
                simp only [List.getElem_toArray, List.getElem_cons_succ, List.getElem_cons_zero, Act.put, List.setIfInBounds_toArray, List.set_cons_zero, List.set_cons_succ]
                refine wpAnyH_take (i := 7) (v := ?vcU3_7) rfl (by kernel_rfl) (by kernel_rfl) (by kernel_rfl) (fun _ _ _ h => h) (Or.inl ⟨rfl, ?ycU3_7⟩) (by assumption) ?_
                case ycU3_7 => (intro w hSw; (try dsimp only at hSw); go_simp; first | done | with_reducible rfl)
                simp only [List.getElem_toArray, List.getElem_cons_succ, List.getElem_cons_zero, Act.put, List.setIfInBounds_toArray, List.set_cons_zero, List.set_cons_succ]
                refine wpAnyH_take (i := 8) (v := ?vcU3_8) rfl (by kernel_rfl) (by kernel_rfl) (by kernel_rfl) (fun _ _ _ h => h) (Or.inl ⟨rfl, ?ycU3_8⟩) (by assumption) ?_
                case ycU3_8 => (intro w hSw; (try dsimp only at hSw); go_simp; first | done | with_reducible rfl)
                simp only [List.getElem_toArray, List.getElem_cons_succ, List.getElem_cons_zero, Act.put, List.setIfInBounds_toArray, List.set_cons_zero, List.set_cons_succ]
                refine wpAnyH_take (i := 9) (v := ?vcU3_9) rfl (by kernel_rfl) (by kernel_rfl) (by kernel_rfl) (fun _ _ _ h => h) (Or.inl ⟨rfl, ?ycU3_9⟩) (by assumption) ?_
                case ycU3_9 => (intro w hSw; (try dsimp only at hSw); go_simp; first | done | with_reducible rfl)
                simp only [List.getElem_toArray, List.getElem_cons_succ, List.getElem_cons_zero, Act.put, List.setIfInBounds_toArray, List.set_cons_zero, List.set_cons_succ]
                refine wpAnyH_take (i := 10) (v := ?vcU3_10) rfl (by kernel_rfl) (by kernel_rfl) (by kernel_rfl) (fun _ _ _ h => h) (Or.inl ⟨rfl, ?ycU3_10⟩) (by assumption) ?_
                case ycU3_10 => (intro w hSw; (try dsimp only at hSw); go_simp; first | done | with_reducible rfl)
                simp only [List.getElem_toArray, List.getElem_cons_succ, List.getElem_cons_zero, Act.put, List.setIfInBounds_toArray, List.set_cons_zero, List.set_cons_succ]
                refine wpAnyH_take (i := 11) (v := ?vcU3_11) rfl (by kernel_rfl) (by kernel_rfl) (by kernel_rfl) (fun _ _ _ h => h) (Or.inl ⟨rfl, ?ycU3_11⟩) (by assumption) ?_
                case ycU3_11 => (intro w hSw; (try dsimp only at hSw); go_simp; first | done | with_reducible rfl)
                simp only [List.getElem_toArray, List.getElem_cons_succ, List.getElem_cons_zero, Act.put, List.setIfInBounds_toArray, List.set_cons_zero, List.set_cons_succ]
                refine wpAnyH_take (i := 12) (v := ?vcU3_12) rfl (by kernel_rfl) (by kernel_rfl) (by kernel_rfl) (fun _ _ _ h => h) (Or.inl ⟨rfl, ?ycU3_12⟩) (by assumption) ?_
                case ycU3_12 => (intro w hSw; (try dsimp only at hSw); go_simp; first | done | with_reducible rfl)
                simp only [List.getElem_toArray, List.getElem_cons_succ, List.getElem_cons_zero, Act.put, List.setIfInBounds_toArray, List.set_cons_zero, List.set_cons_succ]
                refine wpAnyH_take (i := 13) (v := ?vcU3_13) rfl (by kernel_rfl) (by kernel_rfl) (by kernel_rfl) (fun _ _ _ h => h) (Or.inl ⟨rfl, ?ycU3_13⟩) (by assumption) ?_
                case ycU3_13 => (intro w hSw; (try dsimp only at hSw); go_simp; first | done | with_reducible rfl)
                simp only [List.getElem_toArray, List.getElem_cons_succ, List.getElem_cons_zero, Act.put, List.setIfInBounds_toArray, List.set_cons_zero, List.set_cons_succ]
                refine wpAnyH_take (i := 14) (v := ?vcU3_14) rfl (by kernel_rfl) (by kernel_rfl) (by kernel_rfl) (fun _ _ _ h => h) (Or.inl ⟨rfl, ?ycU3_14⟩) (by assumption) ?_
                case ycU3_14 => (intro w hSw; (try dsimp only at hSw); go_simp; first | done | with_reducible rfl)
                simp only [List.getElem_toArray, List.getElem_cons_succ, List.getElem_cons_zero, Act.put, List.setIfInBounds_toArray, List.set_cons_zero, List.set_cons_succ]
                refine wpAnyH_take (i := 15) (v := ?vcU3_15) rfl (by kernel_rfl) (by kernel_rfl) (by kernel_rfl) (fun _ _ _ h => h) (Or.inl ⟨rfl, ?ycU3_15⟩) (by assumption) ?_
                case ycU3_15 => (intro w hSw; (try dsimp only at hSw); go_simp; first | done | with_reducible rfl)
                simp only [List.getElem_toArray, List.getElem_cons_succ, List.getElem_cons_zero, Act.put, List.setIfInBounds_toArray, List.set_cons_zero, List.set_cons_succ]
                refine wpAnyH_take (i := 16) (v := ?vcU3_16) rfl (by kernel_rfl) (by kernel_rfl) (by kernel_rfl) (fun _ _ _ h => h) (Or.inl ⟨rfl, ?ycU3_16⟩) (by assumption) ?_
                case ycU3_16 => (intro w hSw; (try dsimp only at hSw); go_simp; first | done | with_reducible rfl)
                simp only [List.getElem_toArray, List.getElem_cons_succ, List.getElem_cons_zero, Act.put, List.setIfInBounds_toArray, List.set_cons_zero, List.set_cons_succ]
                refine wpAnyH_take (i := 17) (v := ?vcU3_17) rfl (by kernel_rfl) (by kernel_rfl) (by kernel_rfl) (fun _ _ _ h => h) (Or.inl ⟨rfl, ?ycU3_17⟩) (by assumption) ?_
                case ycU3_17 => (intro w hSw; (try dsimp only at hSw); go_simp; first | done | with_reducible rfl)
                simp only [List.getElem_toArray, List.getElem_cons_succ, List.getElem_cons_zero, Act.put, List.setIfInBounds_toArray, List.set_cons_zero, List.set_cons_succ]
                refine wpAnyH_take (i := 18) (v := ?vcU3_18) rfl (by kernel_rfl) (by kernel_rfl) (by kernel_rfl) (fun _ _ _ h => h) (Or.inl ⟨rfl, ?ycU3_18⟩) (by assumption) ?_
                case ycU3_18 => (intro w hSw; (try dsimp only at hSw); go_simp; first | done | with_reducible rfl)
                simp only [List.getElem_toArray, List.getElem_cons_succ, List.getElem_cons_zero, Act.put, List.setIfInBounds_toArray, List.set_cons_zero, List.set_cons_succ]
                refine wpAnyH_take (i := 19) (v := ?vcU3_19) rfl (by kernel_rfl) (by kernel_rfl) (by kernel_rfl) (fun _ _ _ h => h) (Or.inl ⟨rfl, ?ycU3_19⟩) (by assumption) ?_
                case ycU3_19 => (intro w hSw; (try dsimp only at hSw); go_simp; first | done | with_reducible rfl)
                simp only [List.getElem_toArray, List.getElem_cons_succ, List.getElem_cons_zero, Act.put, List.setIfInBounds_toArray, List.set_cons_zero, List.set_cons_succ]
                refine wpAnyH_done (by kernel_rfl) ?_ _
                go_wp2
                go_roundw
                case rel => exact ⟨k + 1, by omega, by omega, by go_num, by rw [hnx.out]; exact hOd.out, hdr.out⟩
                case measure => simp [intOf]; omega
          · obtain rfl : k = K := by omega
            have hlast := Lib.hid hC0.out.last
            have hstop := hC0.out.stop
            rw [hl.out] at hstop
            have hOf : Hid (∃ L', OInts wi w.heap.size (some ⟨w.heap.size, 0, none⟩) (n + 1) L' ∧ (∀ j, p ≤ j → j ≤ n → L'.getD j 0 = (endE W ws j).1)) := Lib.hid ⟨_, hOk, fun j h1 h2 => by
              by_cases hj : j = p
              · rw [hj, set_same9 (by omega)]; exact hlast.out
              · rw [set_other9 (fun e => hj e.symm)]; exact hL.out j (by omega) h2⟩
            by_cases hkn : k = n
            · have k1 : ¬ (k : Int) < (n : Int) := by omega
              replace hkn := Lib.hid hkn
              clear hOk hstop
              go_wp2
              go_roundw
              case rel =>
                obtain ⟨L', o1, o2⟩ := hOf.out
                exact ⟨p, _, L', by omega, rfl, rfl, o1, o2, hbi⟩
              case measure => simp [intOf]
            · have k1 : (k : Int) < (n : Int) := by omega
              have hnf : ¬ k ≤ p + fitI W ws p := by omega
              obtain ⟨b9, off9, e9, _, hVk⟩ := view9 (hSw.below hbi) (a := p) (e := k) (by omega) (by omega)
              cases e9
              have hlk := Lib.hid (long9_spec _ (k - p) (c - p) ((ws.drop p).take (k - p)) (by omega) (fun x hx => by have := hs0.out x (List.mem_of_mem_drop (List.mem_of_mem_take hx)); omega) rfl _ hVk)
              have hfk : ¬ longN (lineW ws (p, k)) ≤ W := fun hh => hnf ((hfi.out p k (by omega) (by rw [hl.out]; omega)).1 hh)
              rw [show lineW ws (p, k) = (ws.drop p).take (k - p) from rfl] at hfk
              generalize longN ((ws.drop p).take (k - p)) = LK at *
              have k2 : decide (LK ≤ W) = false := decide_eq_false hfk
              have k3 : decide ((LK : Int) ≤ (W : Int)) = false := decide_eq_false (by omega)
              have k4 : (k : Int) ≤ (c : Int) := by omega
              have k5 : (p : Int) ≤ (k : Int) := by omega
              have k8 : p < k := by omega
              replace hkn := Lib.hid hkn
              replace hnf := Lib.hid hnf
              clear hOk hstop hVk
              go_wp2_with fail
              refine hlk.out.mono ?_
              rintro e w' ⟨rfl, rfl⟩
              go_wp2
              go_roundw
              case rel =>
                obtain ⟨L', o1, o2⟩ := hOf.out
                exact ⟨p, _, L', by omega, rfl, rfl, o1, o2, hbi⟩
              case measure => simp [intOf]
      · have hcs : cur (p + 1) = -1 := by rw [hst, if_neg (fun hh => hfit (hfn.out.2 hh))]
        have g1 : decide ((LN : Int) ≤ (W : Int)) = false := decide_eq_false (by omega)
        have g2 : decide (LN ≤ W) = false := decide_eq_false hfit
        have hO2 := hO1
        have hbw2 := hbw1
        clear hC hst
        replace hcs := Lib.hid hcs
        go_wp2_with fail
        refine hlong.out.mono ?_
        rintro e w' ⟨rfl, rfl⟩
        go_wp2
        go_loopw [8, 9] (fun kk _ wi => ∃ k : Nat, p + 1 ≤ k ∧ k ≤ K ∧ kk = .int .i64 (k : Int) ∧ OInts wi w.heap.size (some ⟨w.heap.size, 0, none⟩) (n + 1) (L.set p (cur k)) ∧ Below w.heap.size w wi) (fun kk _ _ => n + 1 - (intOf kk).toNat)
        case atStart => exact ⟨p + 1, Nat.le_refl _, hC0.out.lo, rfl, by rw [hcs.out]; exact hO2, hbw2⟩
        case round =>
          rename World => wi
          obtain ⟨k, hk1, hkK, rfl, hOk, hbi⟩ := hrel
          clear q0 q1 q2 q3 hO1 hbw1 hV hlong hO2 hbw2
          by_cases hlt : k < K
          · have hkn : k < n := by omega
            have hkf := hC0.out.fits k hk1 hlt
            obtain ⟨b9, off9, e9, _, hVk⟩ := view9 (hSw.below hbi) (a := p) (e := k) (by omega) (by omega)
            cases e9
            have hlk := Lib.hid (long9_spec _ (k - p) (c - p) ((ws.drop p).take (k - p)) (by omega) (fun x hx => by have := hs0.out x (List.mem_of_mem_drop (List.mem_of_mem_take hx)); omega) rfl _ hVk)
            have hfk := (hfi.out p k (by omega) (by rw [hl.out]; omega)).2 hkf
            obtain ⟨cr0, cr1⟩ := hcr.out p k (by omega) (by rw [hl.out]; omega) hkf
            obtain ⟨er0, er1⟩ := her.out k
            obtain ⟨cu0, cu1⟩ := hC0.out.range k hk1 hkK
            have hcE : costE W ws p k = ((W : Int) - (longN (lineW ws (p, k)) : Int)) * ((W : Int) - (longN (lineW ws (p, k)) : Int)) + (endE W ws k).1 := rfl
            rw [show lineW ws (p, k) = (ws.drop p).take (k - p) from rfl] at hcE hfk
            obtain ⟨s0, s1⟩ := sq80 hW hfk
            generalize longN ((ws.drop p).take (k - p)) = LK at *
            obtain ⟨X, hX⟩ : ∃ X, (W : Int) - (LK : Int) = X := ⟨_, rfl⟩
            have hx1 : IntKind.i64.wrap ((W : Int) - (LK : Int)) = X := by rw [hX]; exact IntWalk.i64_in _ (by omega)
            rw [hX] at hcE s0 s1
            obtain ⟨Z, hZ⟩ : ∃ Z, X * X = Z := ⟨_, rfl⟩
            have hx2 : IntKind.i64.wrap (X * X) = Z := by rw [hZ]; exact IntWalk.i64_in _ (by omega)
            rw [hZ] at hcE s0 s1
            obtain ⟨E, hE⟩ : ∃ E, (endE W ws k).1 = E := ⟨_, rfl⟩
            obtain ⟨C, hCC⟩ : ∃ C, costE W ws p k = C := ⟨_, rfl⟩
            rw [hE] at hcE er0 er1
            rw [hCC] at hcE cr0 cr1
            have hx3 : IntKind.i64.wrap (E + Z) = C := by rw [IntWalk.i64_in _ (by omega)]; omega
            have h1k := hC0.out.neg k hk1 hlt
            have h2k := hC0.out.less k hk1 hlt
            have h3k := hC0.out.more k hk1 hlt
            rw [hCC] at h1k h2k h3k
            obtain ⟨t0, t1, t2, t3⟩ := hOk.parts9 (i := p) (by omega)
            obtain ⟨u0, _, _, _⟩ := hOk.parts9 (i := k) (by omega)
            rw [set_same9 (by omega)] at t0
            rw [set_other9 (by omega), hL.out k (by omega) (by omega), hE] at u0
            have hOn : Hid (∀ v, OInts (wi.setCell ⟨w.heap.size, p, none⟩ (.int .i64 v)) w.heap.size (some ⟨w.heap.size, 0, none⟩) (n + 1) (L.set p v)) := Lib.hid (fun v => by have := hOk.put9 v (i := p) (by omega); rwa [List.set_set] at this)
            have hbn : Hid (∀ v, Below w.heap.size w (wi.setCell ⟨w.heap.size, p, none⟩ (.int .i64 v))) := Lib.hid (fun v => hbi.setCell (p := ⟨w.heap.size, p, none⟩) (Nat.le_refl _) (.int .i64 v))
            have hOs := Lib.hid hOk
            have k1 : (k : Int) < (n : Int) := by omega
            have k2 : decide (LK ≤ W) = true := decide_eq_true hfk
            have k3 : decide ((LK : Int) ≤ (W : Int)) = true := decide_eq_true (by omega)
            have k4 : (k : Int) ≤ (c : Int) := by omega
            have k5 : (p : Int) ≤ (k : Int) := by omega
            have k6 : (0 : Int) ≤ (k : Int) := Int.natCast_nonneg _
            have k7 : (k : Int) < (n : Int) + 1 := by omega
            have hwk : IntKind.i64.wrap ((k : Int) + 1) = ((k + 1 : Nat) : Int) := by rw [IntWalk.i64_in _ (by omega)]; omega
            replace hX := Lib.hid hX
            replace hZ := Lib.hid hZ
            replace hE := Lib.hid hE
            replace hcE := Lib.hid hcE
            replace hCC := Lib.hid hCC
            replace h1k := Lib.hid h1k
            replace h2k := Lib.hid h2k
            replace h3k := Lib.hid h3k
            obtain ⟨V, hVv⟩ : ∃ V, cur k = V := ⟨_, rfl⟩
            rw [hVv] at t0 cu0 cu1 h1k h2k h3k
            clear hOk hVk hfk s0 s1 cr0 cr1 er0 er1
            go_wp2_with fail
            refine hlk.out.mono ?_
            rintro e w' ⟨rfl, rfl⟩
            go_wp2_with fail
            refine hlk.out.mono ?_
            rintro e w' ⟨rfl, rfl⟩
            by_cases hneg : V < 0
            · have g5 : decide (V < 0) = true := decide_eq_true hneg
              have hnx : Hid (cur (k + 1) = C) := Lib.hid (h1k.out hneg)
              replace hneg := Lib.hid hneg
              clear hlk
              go_wp2_with fail
              refine wp_region_held_drew (S := fun w' => w'.cell? ⟨w.heap.size, p, none⟩ = some (.int .i64 V) ∧ w'.cell? ⟨w.heap.size, k, none⟩ = some (.int .i64 E)) (by kernel_rfl) ?_ (fun hHeld => ?_)
              · exact ⟨t0, u0⟩
              refine wpAnyH_take (i := 0) (v := ?vaU4_0) rfl (by kernel_rfl) (by kernel_rfl) (by kernel_rfl) (fun _ _ _ h => h) (Or.inl ⟨rfl, ?yaU4_0⟩) (by assumption) ?_
              case yaU4_0 => (intro w hSw; (try dsimp only at hSw); go_simp; first | done | with_reducible rfl)
              simp only [List.getElem_toArray, List.getElem_cons_succ, List.getElem_cons_zero, Act.put, List.setIfInBounds_toArray, List.set_cons_zero, List.set_cons_succ]
              refine wpAnyH_take (i := 1) (v := ?vaU4_1) rfl (by kernel_rfl) (by kernel_rfl) (by kernel_rfl) (fun _ _ _ h => h) (Or.inl ⟨rfl, ?yaU4_1⟩) (by assumption) ?_
              case yaU4_1 => (intro w hSw; (try dsimp only at hSw); go_simp; first | done | with_reducible rfl)
              simp only [List.getElem_toArray, List.getElem_cons_succ, List.getElem_cons_zero, Act.put, List.setIfInBounds_toArray, List.set_cons_zero, List.set_cons_succ]
              refine wpAnyH_take (i := 2) (v := ?vaU4_2) rfl (by kernel_rfl) (by kernel_rfl) (by kernel_rfl) (fun _ _ _ h => h) (Or.inl ⟨rfl, ?yaU4_2⟩) (by assumption) ?_
              case yaU4_2 => (intro w hSw; (try dsimp only at hSw); go_simp; first | done | with_reducible rfl)
              simp only [List.getElem_toArray, List.getElem_cons_succ, List.getElem_cons_zero, Act.put, List.setIfInBounds_toArray, List.set_cons_zero, List.set_cons_succ]
              refine wpAnyH_take (i := 3) (v := ?vaU4_3) rfl (by kernel_rfl) (by kernel_rfl) (by kernel_rfl) (fun _ _ _ h => h) (Or.inl ⟨rfl, ?yaU4_3⟩) (by assumption) ?_
              case yaU4_3 => (intro w hSw; (try dsimp only at hSw); go_simp; first | done | with_reducible rfl)
              simp only [List.getElem_toArray, List.getElem_cons_succ, List.getElem_cons_zero, Act.put, List.setIfInBounds_toArray, List.set_cons_zero, List.set_cons_succ]
              refine wpAnyH_take (i := 4) (v := ?vaU4_4) rfl (by kernel_rfl) (by kernel_rfl) (by kernel_rfl) (fun _ _ _ h => h) (Or.inl ⟨rfl, ?yaU4_4⟩) (by assumption) ?_
              case yaU4_4 => (intro w hSw; (try dsimp only at hSw); go_simp; first | done | with_reducible rfl)
              simp only [List.getElem_toArray, List.getElem_cons_succ, List.getElem_cons_zero, Act.put, List.setIfInBounds_toArray, List.set_cons_zero, List.set_cons_succ]
              refine wpAnyH_take (i := 5) (v := ?vaU4_5) rfl (by kernel_rfl) (by kernel_rfl) (by kernel_rfl) (fun _ _ _ h => h) (Or.inl ⟨rfl, ?yaU4_5⟩) (by assumption) ?_
              case yaU4_5 => (intro w hSw; (try dsimp only at hSw); go_simp; first | done | with_reducible rfl)
              simp only [List.getElem_toArray, List.getElem_cons_succ, List.getElem_cons_zero, Act.put, List.setIfInBounds_toArray, List.set_cons_zero, List.set_cons_succ]
              refine wpAnyH_take (i := 6) (v := undef) rfl (by kernel_rfl) (by kernel_rfl) (by kernel_rfl) (fun _ _ _ h => h) (Or.inr ⟨rfl, rfl⟩) (by assumption) ?_
              simp only [List.getElem_toArray, List.getElem_cons_succ, List.getElem_cons_zero, Act.put, List.setIfInBounds_toArray, List.set_cons_zero, List.set_cons_succ]
              refine wpAnyH_take (i := 7) (v := undef) rfl (by kernel_rfl) (by kernel_rfl) (by kernel_rfl) (fun _ _ _ h => h) (Or.inr ⟨rfl, rfl⟩) (by assumption) ?_
              simp only [List.getElem_toArray, List.getElem_cons_succ, List.getElem_cons_zero, Act.put, List.setIfInBounds_toArray, List.set_cons_zero, List.set_cons_succ]
              refine wpAnyH_take (i := 8) (v := undef) rfl (by kernel_rfl) (by kernel_rfl) (by kernel_rfl) (fun _ _ _ h => h) (Or.inr ⟨rfl, rfl⟩) (by assumption) ?_
              simp only [List.getElem_toArray, List.getElem_cons_succ, List.getElem_cons_zero, Act.put, List.setIfInBounds_toArray, List.set_cons_zero, List.set_cons_succ]
              refine wpAnyH_take (i := 9) (v := undef) rfl (by kernel_rfl) (by kernel_rfl) (by kernel_rfl) (fun _ _ _ h => h) (Or.inr ⟨rfl, rfl⟩) (by assumption) ?_
              simp only [List.getElem_toArray, List.getElem_cons_succ, List.getElem_cons_zero, Act.put, List.setIfInBounds_toArray, List.set_cons_zero, List.set_cons_succ]
              refine wpAnyH_take (i := 10) (v := undef) rfl (by kernel_rfl) (by kernel_rfl) (by kernel_rfl) (fun _ _ _ h => h) (Or.inr ⟨rfl, rfl⟩) (by assumption) ?_
              simp only [List.getElem_toArray, List.getElem_cons_succ, List.getElem_cons_zero, Act.put, List.setIfInBounds_toArray, List.set_cons_zero, List.set_cons_succ]
              refine wpAnyH_take (i := 11) (v := undef) rfl (by kernel_rfl) (by kernel_rfl) (by kernel_rfl) (fun _ _ _ h => h) (Or.inr ⟨rfl, rfl⟩) (by assumption) ?_
              simp only [List.getElem_toArray, List.getElem_cons_succ, List.getElem_cons_zero, Act.put, List.setIfInBounds_toArray, List.set_cons_zero, List.set_cons_succ]
              refine wpAnyH_take (i := 12) (v := undef) rfl (by kernel_rfl) (by kernel_rfl) (by kernel_rfl) (fun _ _ _ h => h) (Or.inr ⟨rfl, rfl⟩) (by assumption) ?_
              simp only [List.getElem_toArray, List.getElem_cons_succ, List.getElem_cons_zero, Act.put, List.setIfInBounds_toArray, List.set_cons_zero, List.set_cons_succ]
              refine wpAnyH_take (i := 13) (v := undef) rfl (by kernel_rfl) (by kernel_rfl) (by kernel_rfl) (fun _ _ _ h => h) (Or.inr ⟨rfl, rfl⟩) (by assumption) ?_
              simp only [List.getElem_toArray, List.getElem_cons_succ, List.getElem_cons_zero, Act.put, List.setIfInBounds_toArray, List.set_cons_zero, List.set_cons_succ]
              refine wpAnyH_take (i := 14) (v := undef) rfl (by kernel_rfl) (by kernel_rfl) (by kernel_rfl) (fun _ _ _ h => h) (Or.inr ⟨rfl, rfl⟩) (by assumption) ?_
              simp only [List.getElem_toArray, List.getElem_cons_succ, List.getElem_cons_zero, Act.put, List.setIfInBounds_toArray, List.set_cons_zero, List.set_cons_succ]
              refine wpAnyH_take (i := 15) (v := undef) rfl (by kernel_rfl) (by kernel_rfl) (by kernel_rfl) (fun _ _ _ h => h) (Or.inr ⟨rfl, rfl⟩) (by assumption) ?_
              simp only [List.getElem_toArray, List.getElem_cons_succ, List.getElem_cons_zero, Act.put, List.setIfInBounds_toArray, List.set_cons_zero, List.set_cons_succ]
              refine wpAnyH_take (i := 16) (v := undef) rfl (by kernel_rfl) (by kernel_rfl) (by kernel_rfl) (fun _ _ _ h => h) (Or.inr ⟨rfl, rfl⟩) (by assumption) ?_
              simp only [List.getElem_toArray, List.getElem_cons_succ, List.getElem_cons_zero, Act.put, List.setIfInBounds_toArray, List.set_cons_zero, List.set_cons_succ]
              refine wpAnyH_take (i := 17) (v := undef) rfl (by kernel_rfl) (by kernel_rfl) (by kernel_rfl) (fun _ _ _ h => h) (Or.inr ⟨rfl, rfl⟩) (by assumption) ?_
              simp only [List.getElem_toArray, List.getElem_cons_succ, List.getElem_cons_zero, Act.put, List.setIfInBounds_toArray, List.set_cons_zero, List.set_cons_succ]
              refine wpAnyH_take (i := 18) (v := undef) rfl (by kernel_rfl) (by kernel_rfl) (by kernel_rfl) (fun _ _ _ h => h) (Or.inr ⟨rfl, rfl⟩) (by assumption) ?_
              simp only [List.getElem_toArray, List.getElem_cons_succ, List.getElem_cons_zero, Act.put, List.setIfInBounds_toArray, List.set_cons_zero, List.set_cons_succ]
              refine wpAnyH_take (i := 19) (v := ?vaU4_19) rfl (by kernel_rfl) (by kernel_rfl) (by kernel_rfl) (fun _ _ _ h => h) (Or.inl ⟨rfl, ?yaU4_19⟩) (by assumption) ?_
              case yaU4_19 => (intro w hSw; (try dsimp only at hSw); go_simp; first | done | with_reducible rfl)
              simp only [List.getElem_toArray, List.getElem_cons_succ, List.getElem_cons_zero, Act.put, List.setIfInBounds_toArray, List.set_cons_zero, List.set_cons_succ]
              refine wpAnyH_done (by kernel_rfl) ?_ _
              go_wp2
              go_roundw
              case rel => exact ⟨k + 1, by omega, by omega, by go_num, by rw [hnx.out]; exact hOn.out C, (hbn.out C).drew⟩
              case measure => simp [intOf]; omega
            · have g5 : decide (V < 0) = false := decide_eq_false hneg
              by_cases hls : C < V
              · have g6 : decide (C < V) = true := decide_eq_true hls
                have hnx : Hid (cur (k + 1) = C) := Lib.hid (h2k.out (by omega) hls)
                replace hneg := Lib.hid hneg
                replace hls := Lib.hid hls
                clear hlk
                go_wp2_with fail
                refine wp_region_held_drew (S := fun w' => w'.cell? ⟨w.heap.size, p, none⟩ = some (.int .i64 V) ∧ w'.cell? ⟨w.heap.size, k, none⟩ = some (.int .i64 E)) (by kernel_rfl) ?_ (fun hHeld => ?_)
                · exact ⟨t0, u0⟩
                refine wpAnyH_take (i := 0) (v := ?vbU5_0) rfl (by kernel_rfl) (by kernel_rfl) (by kernel_rfl) (fun _ _ _ h => h) (Or.inl ⟨rfl, ?ybU5_0⟩) (by assumption) ?_
                case ybU5_0 => (intro w hSw; (try dsimp only at hSw); go_simp; first | done | with_reducible rfl)
                simp only [List.getElem_toArray, List.getElem_cons_succ, List.getElem_cons_zero, Act.put, List.setIfInBounds_toArray, List.set_cons_zero, List.set_cons_succ]
                refine wpAnyH_take (i := 1) (v := ?vbU5_1) rfl (by kernel_rfl) (by kernel_rfl) (by kernel_rfl) (fun _ _ _ h => h) (Or.inl ⟨rfl, ?ybU5_1⟩) (by assumption) ?_
                case ybU5_1 => (intro w hSw; (try dsimp only at hSw); go_simp; first | done | with_reducible rfl)
                simp only [List.getElem_toArray, List.getElem_cons_succ, List.getElem_cons_zero, Act.put, List.setIfInBounds_toArray, List.set_cons_zero, List.set_cons_succ]
                refine wpAnyH_take (i := 2) (v := ?vbU5_2) rfl (by kernel_rfl) (by kernel_rfl) (by kernel_rfl) (fun _ _ _ h => h) (Or.inl ⟨rfl, ?ybU5_2⟩) (by assumption) ?_
                case ybU5_2 => (intro w hSw; (try dsimp only at hSw); go_simp; first | done | with_reducible rfl)
                simp only [List.getElem_toArray, List.getElem_cons_succ, List.getElem_cons_zero, Act.put, List.setIfInBounds_toArray, List.set_cons_zero, List.set_cons_succ]
                refine wpAnyH_take (i := 3) (v := ?vbU5_3) rfl (by kernel_rfl) (by kernel_rfl) (by kernel_rfl) (fun _ _ _ h => h) (Or.inl ⟨rfl, ?ybU5_3⟩) (by assumption) ?_
                case ybU5_3 => (intro w hSw; (try dsimp only at hSw); go_simp; first | done | with_reducible rfl)
                simp only [List.getElem_toArray, List.getElem_cons_succ, List.getElem_cons_zero, Act.put, List.setIfInBounds_toArray, List.set_cons_zero, List.set_cons_succ]
                refine wpAnyH_take (i := 4) (v := ?vbU5_4) rfl (by kernel_rfl) (by kernel_rfl) (by kernel_rfl) (fun _ _ _ h => h) (Or.inl ⟨rfl, ?ybU5_4⟩) (by assumption) ?_
                case ybU5_4 => (intro w hSw; (try dsimp only at hSw); go_simp; first | done | with_reducible rfl)
                simp only [List.getElem_toArray, List.getElem_cons_succ, List.getElem_cons_zero, Act.put, List.setIfInBounds_toArray, List.set_cons_zero, List.set_cons_succ]
                refine wpAnyH_take (i := 5) (v := ?vbU5_5) rfl (by kernel_rfl) (by kernel_rfl) (by kernel_rfl) (fun _ _ _ h => h) (Or.inl ⟨rfl, ?ybU5_5⟩) (by assumption) ?_
                case ybU5_5 => (intro w hSw; (try dsimp only at hSw); go_simp; first | done | with_reducible rfl)
                simp only [List.getElem_toArray, List.getElem_cons_succ, List.getElem_cons_zero, Act.put, List.setIfInBounds_toArray, List.set_cons_zero, List.set_cons_succ]
                refine wpAnyH_take (i := 6) (v := ?vbU5_6) rfl (by kernel_rfl) (by kernel_rfl) (by kernel_rfl) (fun _ _ _ h => h) (Or.inl ⟨rfl, ?ybU5_6⟩) (by assumption) ?_
                case ybU5_6 => (intro w hSw; (try dsimp only at hSw); go_simp; first | done | with_reducible rfl)
                simp only [List.getElem_toArray, List.getElem_cons_succ, List.getElem_cons_zero, Act.put, List.setIfInBounds_toArray, List.set_cons_zero, List.set_cons_succ]
                refine wpAnyH_take (i := 7) (v := ?vbU5_7) rfl (by kernel_rfl) (by kernel_rfl) (by kernel_rfl) (fun _ _ _ h => h) (Or.inl ⟨rfl, ?ybU5_7⟩) (by assumption) ?_
                case ybU5_7 => (intro w hSw; (try dsimp only at hSw); go_simp; first | done | with_reducible rfl)
                simp only [List.getElem_toArray, List.getElem_cons_succ, List.getElem_cons_zero, Act.put, List.setIfInBounds_toArray, List.set_cons_zero, List.set_cons_succ]
                refine wpAnyH_take (i := 8) (v := ?vbU5_8) rfl (by kernel_rfl) (by kernel_rfl) (by kernel_rfl) (fun _ _ _ h => h) (Or.inl ⟨rfl, ?ybU5_8⟩) (by assumption) ?_
                case ybU5_8 => (intro w hSw; (try dsimp only at hSw); go_simp; first | done | with_reducible rfl)
                simp only [List.getElem_toArray, List.getElem_cons_succ, List.getElem_cons_zero, Act.put, List.setIfInBounds_toArray, List.set_cons_zero, List.set_cons_succ]
                refine wpAnyH_take (i := 9) (v := ?vbU5_9) rfl (by kernel_rfl) (by kernel_rfl) (by kernel_rfl) (fun _ _ _ h => h) (Or.inl ⟨rfl, ?ybU5_9⟩) (by assumption) ?_
                case ybU5_9 => (intro w hSw; (try dsimp only at hSw); go_simp; first | done | with_reducible rfl)
                simp only [List.getElem_toArray, List.getElem_cons_succ, List.getElem_cons_zero, Act.put, List.setIfInBounds_toArray, List.set_cons_zero, List.set_cons_succ]
                refine wpAnyH_take (i := 10) (v := ?vbU5_10) rfl (by kernel_rfl) (by kernel_rfl) (by kernel_rfl) (fun _ _ _ h => h) (Or.inl ⟨rfl, ?ybU5_10⟩) (by assumption) ?_
                case ybU5_10 => (intro w hSw; (try dsimp only at hSw); go_simp; first | done | with_reducible rfl)
                simp only [List.getElem_toArray, List.getElem_cons_succ, List.getElem_cons_zero, Act.put, List.setIfInBounds_toArray, List.set_cons_zero, List.set_cons_succ]
                refine wpAnyH_take (i := 11) (v := ?vbU5_11) rfl (by kernel_rfl) (by kernel_rfl) (by kernel_rfl) (fun _ _ _ h => h) (Or.inl ⟨rfl, ?ybU5_11⟩) (by assumption) ?_
                case ybU5_11 => (intro w hSw; (try dsimp only at hSw); go_simp; first | done | with_reducible rfl)
                simp only [List.getElem_toArray, List.getElem_cons_succ, List.getElem_cons_zero, Act.put, List.setIfInBounds_toArray, List.set_cons_zero, List.set_cons_succ]
                refine wpAnyH_take (i := 12) (v := ?vbU5_12) rfl (by kernel_rfl) (by kernel_rfl) (by kernel_rfl) (fun _ _ _ h => h) (Or.inl ⟨rfl, ?ybU5_12⟩) (by assumption) ?_
                case ybU5_12 => (intro w hSw; (try dsimp only at hSw); go_simp; first | done | with_reducible rfl)
                simp only [List.getElem_toArray, List.getElem_cons_succ, List.getElem_cons_zero, Act.put, List.setIfInBounds_toArray, List.set_cons_zero, List.set_cons_succ]
                refine wpAnyH_take (i := 13) (v := ?vbU5_13) rfl (by kernel_rfl) (by kernel_rfl) (by kernel_rfl) (fun _ _ _ h => h) (Or.inl ⟨rfl, ?ybU5_13⟩) (by assumption) ?_
                case ybU5_13 => (intro w hSw; (try dsimp only at hSw); go_simp; first | done | with_reducible rfl)
                simp only [List.getElem_toArray, List.getElem_cons_succ, List.getElem_cons_zero, Act.put, List.setIfInBounds_toArray, List.set_cons_zero, List.set_cons_succ]
                refine wpAnyH_take (i := 14) (v := ?vbU5_14) rfl (by kernel_rfl) (by kernel_rfl) (by kernel_rfl) (fun _ _ _ h => h) (Or.inl ⟨rfl, ?ybU5_14⟩) (by assumption) ?_
                case ybU5_14 => (intro w hSw; (try dsimp only at hSw); go_simp; first | done | with_reducible rfl)
                simp only [List.getElem_toArray, List.getElem_cons_succ, List.getElem_cons_zero, Act.put, List.setIfInBounds_toArray, List.set_cons_zero, List.set_cons_succ]
                refine wpAnyH_take (i := 15) (v := ?vbU5_15) rfl (by kernel_rfl) (by kernel_rfl) (by kernel_rfl) (fun _ _ _ h => h) (Or.inl ⟨rfl, ?ybU5_15⟩) (by assumption) ?_
                case ybU5_15 => (intro w hSw; (try dsimp only at hSw); go_simp; first | done | with_reducible rfl)
                simp only [List.getElem_toArray, List.getElem_cons_succ, List.getElem_cons_zero, Act.put, List.setIfInBounds_toArray, List.set_cons_zero, List.set_cons_succ]
                refine wpAnyH_take (i := 16) (v := ?vbU5_16) rfl (by kernel_rfl) (by kernel_rfl) (by kernel_rfl) (fun _ _ _ h => h) (Or.inl ⟨rfl, ?ybU5_16⟩) (by assumption) ?_
                case ybU5_16 => (intro w hSw; (try dsimp only at hSw); go_simp; first | done | with_reducible rfl)
                simp only [List.getElem_toArray, List.getElem_cons_succ, List.getElem_cons_zero, Act.put, List.setIfInBounds_toArray, List.set_cons_zero, List.set_cons_succ]
                refine wpAnyH_take (i := 17) (v := ?vbU5_17) rfl (by kernel_rfl) (by kernel_rfl) (by kernel_rfl) (fun _ _ _ h => h) (Or.inl ⟨rfl, ?ybU5_17⟩) (by assumption) ?_
                case ybU5_17 => (intro w hSw; (try dsimp only at hSw); go_simp; first | done | with_reducible rfl)
                simp only [List.getElem_toArray, List.getElem_cons_succ, List.getElem_cons_zero, Act.put, List.setIfInBounds_toArray, List.set_cons_zero, List.set_cons_succ]
                refine wpAnyH_take (i := 18) (v := ?vbU5_18) rfl (by kernel_rfl) (by kernel_rfl) (by kernel_rfl) (fun _ _ _ h => h) (Or.inl ⟨rfl, ?ybU5_18⟩) (by assumption) ?_
                case ybU5_18 => (intro w hSw; (try dsimp only at hSw); go_simp; first | done | with_reducible rfl)
                simp only [List.getElem_toArray, List.getElem_cons_succ, List.getElem_cons_zero, Act.put, List.setIfInBounds_toArray, List.set_cons_zero, List.set_cons_succ]
                refine wpAnyH_take (i := 19) (v := ?vbU5_19) rfl (by kernel_rfl) (by kernel_rfl) (by kernel_rfl) (fun _ _ _ h => h) (Or.inl ⟨rfl, ?ybU5_19⟩) (by assumption) ?_
                case ybU5_19 => (intro w hSw; (try dsimp only at hSw); go_simp; first | done | with_reducible rfl)
                simp only [List.getElem_toArray, List.getElem_cons_succ, List.getElem_cons_zero, Act.put, List.setIfInBounds_toArray, List.set_cons_zero, List.set_cons_succ]
                refine wpAnyH_done (by kernel_rfl) ?_ _
                go_wp2
                go_roundw
                case rel => exact ⟨k + 1, by omega, by omega, by go_num, by rw [hnx.out]; exact hOn.out C, (hbn.out C).drew⟩
                case measure => simp [intOf]; omega
              · have g6 : decide (C < V) = false := decide_eq_false hls
                have hnx : Hid (cur (k + 1) = V) := Lib.hid (h3k.out (by omega) (by omega))
                have hdr := Lib.hid hbi.drew
                have hOd : Hid (OInts wi.drew w.heap.size (some ⟨w.heap.size, 0, none⟩) (n + 1) (L.set p V)) := Lib.hid (by rw [← hVv]; exact hOs.out.below (Below.refl _ _).drew)
                replace hneg := Lib.hid hneg
                replace hls := Lib.hid hls
                clear hlk
                go_wp2_with fail
                refine wp_region_held_drew (S := fun w' => w'.cell? ⟨w.heap.size, p, none⟩ = some (.int .i64 V) ∧ w'.cell? ⟨w.heap.size, k, none⟩ = some (.int .i64 E)) (by kernel_rfl) ?_ (fun hHeld => ?_)
                · exact ⟨t0, u0⟩
                refine wpAnyH_take (i := 0) (v := ?vcU6_0) rfl (by kernel_rfl) (by kernel_rfl) (by kernel_rfl) (fun _ _ _ h => h) (Or.inl ⟨rfl, ?ycU6_0⟩) (by assumption) ?_
                case ycU6_0 => (intro w hSw; (try dsimp only at hSw); go_simp; first | done | with_reducible rfl)
                simp only [List.getElem_toArray, List.getElem_cons_succ, List.getElem_cons_zero, Act.put, List.setIfInBounds_toArray, List.set_cons_zero, List.set_cons_succ]
                refine wpAnyH_take (i := 1) (v := ?vcU6_1) rfl (by kernel_rfl) (by kernel_rfl) (by kernel_rfl) (fun _ _ _ h => h) (Or.inl ⟨rfl, ?ycU6_1⟩) (by assumption) ?_
                case ycU6_1 => (intro w hSw; (try dsimp only at hSw); go_simp; first | done | with_reducible rfl)
                simp only [List.getElem_toArray, List.getElem_cons_succ, List.getElem_cons_zero, Act.put, List.setIfInBounds_toArray, List.set_cons_zero, List.set_cons_succ]
                refine wpAnyH_take (i := 2) (v := ?vcU6_2) rfl (by kernel_rfl) (by kernel_rfl) (by kernel_rfl) (fun _ _ _ h => h) (Or.inl ⟨rfl, ?ycU6_2⟩) (by assumption) ?_
                case ycU6_2 => (intro w hSw; (try dsimp only at hSw); go_simp; first | done | with_reducible rfl)
                simp only [List.getElem_toArray, List.getElem_cons_succ, List.getElem_cons_zero, Act.put, List.setIfInBounds_toArray, List.set_cons_zero, List.set_cons_succ]
                refine wpAnyH_take (i := 3) (v := ?vcU6_3) rfl (by kernel_rfl) (by kernel_rfl) (by kernel_rfl) (fun _ _ _ h => h) (Or.inl ⟨rfl, ?ycU6_3⟩) (by assumption) ?_
                case ycU6_3 => (intro w hSw; (try dsimp only at hSw); go_simp; first | done | with_reducible rfl)
                simp only [List.getElem_toArray, List.getElem_cons_succ, List.getElem_cons_zero, Act.put, List.setIfInBounds_toArray, List.set_cons_zero, List.set_cons_succ]
                refine wpAnyH_take (i := 4) (v := ?vcU6_4) rfl (by kernel_rfl) (by kernel_rfl) (by kernel_rfl) (fun _ _ _ h => h) (Or.inl ⟨rfl, ?ycU6_4⟩) (by assumption) ?_
                case ycU6_4 => (intro w hSw; (try dsimp only at hSw); go_simp; first | done | with_reducible rfl)
                simp only [List.getElem_toArray, List.getElem_cons_succ, List.getElem_cons_zero, Act.put, List.setIfInBounds_toArray, List.set_cons_zero, List.set_cons_succ]
                refine wpAnyH_take (i := 5) (v := ?vcU6_5) rfl (by kernel_rfl) (by kernel_rfl) (by kernel_rfl) (fun _ _ _ h => h) (Or.inl ⟨rfl, ?ycU6_5⟩) (by assumption) ?_
                case ycU6_5 => (intro w hSw; (try dsimp only at hSw); go_simp; first | done | with_reducible rfl)
                simp only [List.getElem_toArray, List.getElem_cons_succ, List.getElem_cons_zero, Act.put, List.setIfInBounds_toArray, List.set_cons_zero, List.set_cons_succ]
                refine wpAnyH_take (i := 6) (v := ?vcU6_6) rfl (by kernel_rfl) (by kernel_rfl) (by kernel_rfl) (fun _ _ _ h => h) (Or.inl ⟨rfl, ?ycU6_6⟩) (by assumption) ?_
                case ycU6_6 => (intro w hSw; (try dsimp only at hSw); go_simp; first | done | with_reducible rfl)
                simp only [List.getElem_toArray, List.getElem_cons_succ, List.getElem_cons_zero, Act.put, List.setIfInBounds_toArray, List.set_cons_zero, List.set_cons_succ]
                refine wpAnyH_take (i := 7) (v := ?vcU6_7) rfl (by kernel_rfl) (by kernel_rfl) (by kernel_rfl) (fun _ _ _ h => h) (Or.inl ⟨rfl, ?ycU6_7⟩) (by assumption) ?_
                case ycU6_7 => (intro w hSw; (try dsimp only at hSw); go_simp; first | done | with_reducible rfl)
                simp only [List.getElem_toArray, List.getElem_cons_succ, List.getElem_cons_zero, Act.put, List.setIfInBounds_toArray, List.set_cons_zero, List.set_cons_succ]
                refine wpAnyH_take (i := 8) (v := ?vcU6_8) rfl (by kernel_rfl) (by kernel_rfl) (by kernel_rfl) (fun _ _ _ h => h) (Or.inl ⟨rfl, ?ycU6_8⟩) (by assumption) ?_
                case ycU6_8 => (intro w hSw; (try dsimp only at hSw); go_simp; first | done | with_reducible rfl)
                simp only [List.getElem_toArray, List.getElem_cons_succ, List.getElem_cons_zero, Act.put, List.setIfInBounds_toArray, List.set_cons_zero, List.set_cons_succ]
                refine wpAnyH_take (i := 9) (v := ?vcU6_9) rfl (by kernel_rfl) (by kernel_rfl) (by kernel_rfl) (fun _ _ _ h => h) (Or.inl ⟨rfl, ?ycU6_9⟩) (by assumption) ?_
                case ycU6_9 => (intro w hSw; (try dsimp only at hSw); go_simp; first | done | with_reducible rfl)
                simp only [List.getElem_toArray, List.getElem_cons_succ, List.getElem_cons_zero, Act.put, List.setIfInBounds_toArray, List.set_cons_zero, List.set_cons_succ]
                refine wpAnyH_take (i := 10) (v := ?vcU6_10) rfl (by kernel_rfl) (by kernel_rfl) (by kernel_rfl) (fun _ _ _ h => h) (Or.inl ⟨rfl, ?ycU6_10⟩) (by assumption) ?_
                case ycU6_10 => (intro w hSw; (try dsimp only at hSw); go_simp; first | done | with_reducible rfl)
                simp only [List.getElem_toArray, List.getElem_cons_succ, List.getElem_cons_zero, Act.put, List.setIfInBounds_toArray, List.set_cons_zero, List.set_cons_succ]
                refine wpAnyH_take (i := 11) (v := ?vcU6_11) rfl (by kernel_rfl) (by kernel_rfl) (by kernel_rfl) (fun _ _ _ h => h) (Or.inl ⟨rfl, ?ycU6_11⟩) (by assumption) ?_
                case ycU6_11 => (intro w hSw; (try dsimp only at hSw); go_simp; first | done | with_reducible rfl)
                simp only [List.getElem_toArray, List.getElem_cons_succ, List.getElem_cons_zero, Act.put, List.setIfInBounds_toArray, List.set_cons_zero, List.set_cons_succ]
                refine wpAnyH_take (i := 12) (v := ?vcU6_12) rfl (by kernel_rfl) (by kernel_rfl) (by kernel_rfl) (fun _ _ _ h => h) (Or.inl ⟨rfl, ?ycU6_12⟩) (by assumption) ?_
                case ycU6_12 => (intro w hSw; (try dsimp only at hSw); go_simp; first | done | with_reducible rfl)
                simp only [List.getElem_toArray, List.getElem_cons_succ, List.getElem_cons_zero, Act.put, List.setIfInBounds_toArray, List.set_cons_zero, List.set_cons_succ]
                refine wpAnyH_take (i := 13) (v := ?vcU6_13) rfl (by kernel_rfl) (by kernel_rfl) (by kernel_rfl) (fun _ _ _ h => h) (Or.inl ⟨rfl, ?ycU6_13⟩) (by assumption) ?_
                case ycU6_13 => (intro w hSw; (try dsimp only at hSw); go_simp; first | done | with_reducible rfl)
                simp only [List.getElem_toArray, List.getElem_cons_succ, List.getElem_cons_zero, Act.put, List.setIfInBounds_toArray, List.set_cons_zero, List.set_cons_succ]
                refine wpAnyH_take (i := 14) (v := ?vcU6_14) rfl (by kernel_rfl) (by kernel_rfl) (by kernel_rfl) (fun _ _ _ h => h) (Or.inl ⟨rfl, ?ycU6_14⟩) (by assumption) ?_
                case ycU6_14 => (intro w hSw; (try dsimp only at hSw); go_simp; first | done | with_reducible rfl)
                simp only [List.getElem_toArray, List.getElem_cons_succ, List.getElem_cons_zero, Act.put, List.setIfInBounds_toArray, List.set_cons_zero, List.set_cons_succ]
                refine wpAnyH_take (i := 15) (v := ?vcU6_15) rfl (by kernel_rfl) (by kernel_rfl) (by kernel_rfl) (fun _ _ _ h => h) (Or.inl ⟨rfl, ?ycU6_15⟩) (by assumption) ?_
                case ycU6_15 => (intro w hSw; (try dsimp only at hSw); go_simp; first | done | with_reducible rfl)
                simp only [List.getElem_toArray, List.getElem_cons_succ, List.getElem_cons_zero, Act.put, List.setIfInBounds_toArray, List.set_cons_zero, List.set_cons_succ]
                refine wpAnyH_take (i := 16) (v := ?vcU6_16) rfl (by kernel_rfl) (by kernel_rfl) (by kernel_rfl) (fun _ _ _ h => h) (Or.inl ⟨rfl, ?ycU6_16⟩) (by assumption) ?_
                case ycU6_16 => (intro w hSw; (try dsimp only at hSw); go_simp; first | done | with_reducible rfl)
                simp only [List.getElem_toArray, List.getElem_cons_succ, List.getElem_cons_zero, Act.put, List.setIfInBounds_toArray, List.set_cons_zero, List.set_cons_succ]
                refine wpAnyH_take (i := 17) (v := ?vcU6_17) rfl (by kernel_rfl) (by kernel_rfl) (by kernel_rfl) (fun _ _ _ h => h) (Or.inl ⟨rfl, ?ycU6_17⟩) (by assumption) ?_
                case ycU6_17 => (intro w hSw; (try dsimp only at hSw); go_simp; first | done | with_reducible rfl)
                simp only [List.getElem_toArray, List.getElem_cons_succ, List.getElem_cons_zero, Act.put, List.setIfInBounds_toArray, List.set_cons_zero, List.set_cons_succ]
                refine wpAnyH_take (i := 18) (v := ?vcU6_18) rfl (by kernel_rfl) (by kernel_rfl) (by kernel_rfl) (fun _ _ _ h => h) (Or.inl ⟨rfl, ?ycU6_18⟩) (by assumption) ?_
                case ycU6_18 => (intro w hSw; (try dsimp only at hSw); go_simp; first | done | with_reducible rfl)
                simp only [List.getElem_toArray, List.getElem_cons_succ, List.getElem_cons_zero, Act.put, List.setIfInBounds_toArray, List.set_cons_zero, List.set_cons_succ]
                refine wpAnyH_take (i := 19) (v := ?vcU6_19) rfl (by kernel_rfl) (by kernel_rfl) (by kernel_rfl) (fun _ _ _ h => h) (Or.inl ⟨rfl, ?ycU6_19⟩) (by assumption) ?_
                case ycU6_19 => (intro w hSw; (try dsimp only at hSw); go_simp; first | done | with_reducible rfl)
                simp only [List.getElem_toArray, List.getElem_cons_succ, List.getElem_cons_zero, Act.put, List.setIfInBounds_toArray, List.set_cons_zero, List.set_cons_succ]
                refine wpAnyH_done (by kernel_rfl) ?_ _
                go_wp2
                go_roundw
                case rel => exact ⟨k + 1, by omega, by omega, by go_num, by rw [hnx.out]; exact hOd.out, hdr.out⟩
                case measure => simp [intOf]; omega
          · obtain rfl : k = K := by omega
            have hlast := Lib.hid hC0.out.last
            have hstop := hC0.out.stop
            rw [hl.out] at hstop
            have hOf : Hid (∃ L', OInts wi w.heap.size (some ⟨w.heap.size, 0, none⟩) (n + 1) L' ∧ (∀ j, p ≤ j → j ≤ n → L'.getD j 0 = (endE W ws j).1)) := Lib.hid ⟨_, hOk, fun j h1 h2 => by
              by_cases hj : j = p
              · rw [hj, set_same9 (by omega)]; exact hlast.out
              · rw [set_other9 (fun e => hj e.symm)]; exact hL.out j (by omega) h2⟩
            by_cases hkn : k = n
            · have k1 : ¬ (k : Int) < (n : Int) := by omega
              replace hkn := Lib.hid hkn
              clear hOk hstop
              go_wp2
              go_roundw
              case rel =>
                obtain ⟨L', o1, o2⟩ := hOf.out
                exact ⟨p, _, L', by omega, rfl, rfl, o1, o2, hbi⟩
              case measure => simp [intOf]
            · have k1 : (k : Int) < (n : Int) := by omega
              have hnf : ¬ k ≤ p + fitI W ws p := by omega
              obtain ⟨b9, off9, e9, _, hVk⟩ := view9 (hSw.below hbi) (a := p) (e := k) (by omega) (by omega)
              cases e9
              have hlk := Lib.hid (long9_spec _ (k - p) (c - p) ((ws.drop p).take (k - p)) (by omega) (fun x hx => by have := hs0.out x (List.mem_of_mem_drop (List.mem_of_mem_take hx)); omega) rfl _ hVk)
              have hfk : ¬ longN (lineW ws (p, k)) ≤ W := fun hh => hnf ((hfi.out p k (by omega) (by rw [hl.out]; omega)).1 hh)
              rw [show lineW ws (p, k) = (ws.drop p).take (k - p) from rfl] at hfk
              generalize longN ((ws.drop p).take (k - p)) = LK at *
              have k2 : decide (LK ≤ W) = false := decide_eq_false hfk
              have k3 : decide ((LK : Int) ≤ (W : Int)) = false := decide_eq_false (by omega)
              have k4 : (k : Int) ≤ (c : Int) := by omega
              have k5 : (p : Int) ≤ (k : Int) := by omega
              have k8 : p < k := by omega
              replace hkn := Lib.hid hkn
              replace hnf := Lib.hid hnf
              clear hOk hstop hVk
              go_wp2_with fail
              refine hlk.out.mono ?_
              rintro e w' ⟨rfl, rfl⟩
              go_wp2
              go_roundw
              case rel =>
                obtain ⟨L', o1, o2⟩ := hOf.out
                exact ⟨p, _, L', by omega, rfl, rfl, o1, o2, hbi⟩
              case measure => simp [intOf]
end Go.Proofs.Ytcaojaaooadeaaa
